/-
  The plain disk's Read. Conditions: the rows read as they are said to; each write's number is a sector's.
-/
import Derived.Test.YtgcghoalepkdfaaRefP
namespace Go.Proofs.Ytgcghoalepkdfaa
open Go.RowKit
set_option linter.unusedSimpArgs false
set_option linter.unusedVariables false
set_option maxRecDepth 100000 in
set_option maxHeartbeats 1000000 in
theorem rread_in (w : World) (AA : Option Addr) (c : Nat) (AW : Option Addr) (cw : Nat) (d : DM) (l k : Nat) (h : RefAt w w.heap.size AA c AW cw d) (hw : d.wait.length ≤ 1000000) (hg' : d.gone = false) (hk : k < d.n) :
    Calls Try.prog 32 #[.agg (rl AA d.n c AW d.wait.length cw d.steps l d.armed d.gone).toArray, .int .i64 k] w fun e w' => e = .returned (.tuple #[(d.read k).v, .int .i64 (d.readErr k)]) ∧ Below w.heap.size w w' := by
  obtain ⟨Zs, hz, hZs⟩ : ∃ Zs : List Value, (∀ w, (zeroValue 47).run Try.prog w = .ok (.agg Zs.toArray) w) ∧ Zs = Sec.zero.cs := ⟨_, sec_zero, rfl⟩
  have hus := Try.underlying47
  have hzl : Zs.length = 128 := by rw [hZs, Sec.cs_len]
  clear hZs
  have H := Lib.hid h
  have hh : d.has (k : Int) = true := by simp [DM.has]; omega
  have e1 : d.read (k : Int) = settled (fun _ => true) 0 d.wait d.sure (k : Int) := by
    unfold DM.read
    rw [hg', hh, settled_last]
    rfl
  have e2 : d.readErr (k : Int) = 0 := by unfold DM.readErr; rw [hg', hh]; rfl
  have E1 := Lib.hid e1
  have E2 := Lib.hid e2
  have d1 : decide ((d.n : Int) ≤ (k : Int)) = false := by simp; omega
  have k0 : (0 : Int) ≤ (k : Int) := by omega
  have k1 : (k : Int) < d.n := by omega
  clear e1 e2 hh h
  rw [hg']
  go_enter Try.func32, Try.ntmps32
  go_wp2_with fail
  generalize hw2 : World.alloc _ (Obj.cells Zs.toArray 47) = w2
  have B1 : Blk w2 (w.heap.size + 1) 47 Zs.toArray := by rw [← hw2]; exact two_allocs _ _ _
  have hb2 : Below w.heap.size w w2 := by rw [← hw2]; exact two_below _ _ _
  have R2 := (H.out.below hb2).more hb2.size
  clear hw2
  refine (rdone_any AA d.n c AW cw d.sure d.wait w2 R2.small hw R2.secs R2.wait R2.in_).mono ?_
  rintro e w3 ⟨v, rfl, hown, b3⟩
  rw [six_flat] at hown
  obtain ⟨Ao, co, rfl⟩ : ∃ Ao co, v = .slice Ao d.n co := by
    rcases hown.2 with ⟨rfl, hn⟩ | ⟨g', cap, cur, rfl, _⟩
    · rw [hn]; exact ⟨_, _, rfl⟩
    · exact ⟨_, _, rfl⟩
  obtain ⟨go, x, rfl, hnc, hx, hr, hbg, hgl⟩ := row_at Sec.cs_len hown (by simp) hk
  have hxe : x = settled (fun _ => true) 0 d.wait d.sure (k : Int) := by simpa [hk] using hx.symm
  have HX := Lib.hid hxe
  have C1 := Lib.hid (B1.below b3 B1.lt)
  have hb3 := Lib.hid (hb2.trans (b3.mono hb2.size))
  have hib : (Try.prog.info? 47).map (·.size) = some x.cs.length := by rw [Sec.cs_len]; exact sec_size
  clear hx hown B1 hb2 R2 b3 hxe
  go_wp2_with (first
    | (refine wpList_load_mid rfl 47 (.tmp 25) rfl go (k * 128) rfl x.cs _ hr hus rfl hib ?_)
    | (refine wpList_store_blk rfl 47 (.tmp 4) (.tmp 26) rfl (w.heap.size + 1) _ x.cs rfl rfl C1.out (by rw [Sec.cs_len]; simpa using hzl.symm) hib x.one ?_; intro w4 hB1 ho4 hs4))
  refine bodyPost_ret (results_cell_tmp rfl _ _ (w.heap.size + 1) 47 _ (0, 0) _ _ rfl rfl hB1 hus rfl (by simpa using hib)) rfl ?_
  refine ⟨by rw [E1.out, E2.out, HX.out]; rfl, hb3.out.trans (ho4.below (fun j hj => by simp at hj; omega) hb3.out.size)⟩
set_option maxRecDepth 100000 in
set_option maxHeartbeats 1000000 in
theorem rread_any (w : World) (AA : Option Addr) (c : Nat) (AW : Option Addr) (cw : Nat) (d : DM) (l : Nat) (i : Int) (h : RefAt w w.heap.size AA c AW cw d) (hw : d.wait.length ≤ 1000000) :
    Calls Try.prog 32 #[.agg (rl AA d.n c AW d.wait.length cw d.steps l d.armed d.gone).toArray, .int .i64 i] w fun e w' => e = .returned (.tuple #[(d.read i).v, .int .i64 (d.readErr i)]) ∧ Below w.heap.size w w' := by
  obtain ⟨Zs, hz, hbd, hZs⟩ : ∃ Zs : List Value, (∀ w, (zeroValue 47).run Try.prog w = .ok (.agg Zs.toArray) w) ∧ (∀ w, (Instr.build 47 #[]).run Try.prog w = .ok (.agg Zs.toArray) w) ∧ Zs = Sec.zero.cs := ⟨_, sec_zero, sec_build, rfl⟩
  have hus := Try.underlying47
  have hi6 : (Try.prog.info? 47).map (·.size) = some Zs.length := by rw [hZs, Sec.cs_len]; exact sec_size
  have hone : ∀ v ∈ Zs, v.oneCell' = true := by rw [hZs]; exact Sec.zero.one
  have hzl : Zs.length = 128 := by rw [hZs, Sec.cs_len]
  have HZ := Lib.hid hZs
  have hbw := Lib.hid (two_below w)
  have H := Lib.hid h
  clear h hZs
  by_cases hno : d.gone = false ∧ 0 ≤ i ∧ i < d.n
  · obtain ⟨k, rfl⟩ := Int.eq_ofNat_of_zero_le hno.2.1
    exact rread_in w AA c AW cw d l k H.out hw hno.1 (by omega)
  go_enter Try.func32, Try.ntmps32
  by_cases hg : d.gone = true
  · have e1 : (d.read i).v = .agg Zs.toArray := by rw [HZ.out]; unfold DM.read; rw [hg]; rfl
    have e2 : d.readErr i = 3 := by unfold DM.readErr; rw [hg]; rfl
    have E1 := Lib.hid e1
    have E2 := Lib.hid e2
    rw [hg]
    clear e1 e2
    go_wp2_with (refine wpList_store_newN rfl 47 (.tmp 4) (.tmp 8) rfl (w.heap.size + 1) (by simp) Zs Zs.toArray rfl rfl hi6 (by simp) hone ?_)
    refine bodyPost_ret (results_cell_tmp rfl _ _ (w.heap.size + 1) 47 _ (0, 0) _ _ rfl rfl (two_allocs _ _ _) hus rfl (by simpa using hi6)) rfl ?_
    exact ⟨by rw [E1.out, E2.out]; rfl, hbw.out _ _⟩
  · have hg' : d.gone = false := by simpa using hg
    have bad : d.has i = false → (d.read i).v = .agg Zs.toArray ∧ d.readErr i = 1 := fun hh => by
      refine ⟨?_, ?_⟩
      · rw [HZ.out]; unfold DM.read; rw [hh]; simp [Sec.v]
      · unfold DM.readErr; rw [hg', hh]; rfl
    have BAD := Lib.hid bad
    clear bad hg
    rw [hg']
    by_cases h0 : i < 0
    · have hh : d.has i = false := by simp [DM.has]; omega
      obtain ⟨e1, e2⟩ := BAD.out hh
      have E1 := Lib.hid e1
      have E2 := Lib.hid e2
      have d0 : decide (i < 0) = true := by simpa using h0
      clear e1 e2 hh h0
      go_wp2_with (refine wpList_store_newN rfl 47 (.tmp 4) (.tmp 18) rfl (w.heap.size + 1) (by simp) Zs Zs.toArray rfl rfl hi6 (by simp) hone ?_)
      refine bodyPost_ret (results_cell_tmp rfl _ _ (w.heap.size + 1) 47 _ (0, 0) _ _ rfl rfl (two_allocs _ _ _) hus rfl (by simpa using hi6)) rfl ?_
      exact ⟨by rw [E1.out, E2.out]; rfl, hbw.out _ _⟩
    · have d0 : decide (i < 0) = false := by simpa using h0
      by_cases hn : (d.n : Int) ≤ i
      · have hh : d.has i = false := by simp [DM.has]; omega
        obtain ⟨e1, e2⟩ := BAD.out hh
        have E1 := Lib.hid e1
        have E2 := Lib.hid e2
        have d1 : decide ((d.n : Int) ≤ i) = true := by simpa using hn
        clear e1 e2 hh h0 hn
        go_wp2_with (refine wpList_store_newN rfl 47 (.tmp 4) (.tmp 18) rfl (w.heap.size + 1) (by simp) Zs Zs.toArray rfl rfl hi6 (by simp) hone ?_)
        refine bodyPost_ret (results_cell_tmp rfl _ _ (w.heap.size + 1) 47 _ (0, 0) _ _ rfl rfl (two_allocs _ _ _) hus rfl (by simpa using hi6)) rfl ?_
        exact ⟨by rw [E1.out, E2.out]; rfl, hbw.out _ _⟩
      · exact absurd ⟨hg', by omega, by omega⟩ hno
end Go.Proofs.Ytgcghoalepkdfaa
