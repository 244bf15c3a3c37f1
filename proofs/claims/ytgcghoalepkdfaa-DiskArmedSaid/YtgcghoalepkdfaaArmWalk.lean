/-
  The law DiskArmed, walked: it returns true and changes nothing that was there. No condition.
-/
import Derived.Test.YtgcghoalepkdfaaDoA
import Derived.Deep.LoopGhost
namespace Go.Proofs.Ytgcghoalepkdfaa
open Go.RowKit
set_option linter.unusedSimpArgs false
set_option linter.unusedVariables false
/-- an armed disk: of S steps so many are done, the rest are left -/
structure Armd (d : DM) (S k : Nat) : Prop where
  bd : Bd d 6 k
  armed : d.armed = true
  sum : d.steps + d.left = S
  gone : d.gone = true → d.left = 0
theorem Armd.more {d : DM} {S k m : Nat} (h : Armd d S k) (hm : k ≤ m) : Armd d S m := ⟨h.bd.more hm, h.armed, h.sum, h.gone⟩
theorem Armd.step {d : DM} {S k : Nat} (h : Armd d S k) : Armd d.step S (k + 1) := by
  have h1 := h.armed
  have h2 := h.sum
  by_cases ho : d.off = true
  · have e : d.step = { d with gone := true } := by simp [DM.step, ho]
    have hb := h.bd.step
    rw [e] at hb ⊢
    refine ⟨hb, h1, h2, fun _ => ?_⟩
    simp [DM.off, h1] at ho
    rcases ho with ho | ho
    · exact h.gone ho
    · exact ho
  · have e : d.step = { d with steps := d.steps + 1, left := d.left - 1 } := by simp [DM.step, ho, h1]
    have hb := h.bd.step
    rw [e] at hb ⊢
    simp [DM.off, h1] at ho
    refine ⟨hb, h1, ?_, fun hg => ?_⟩
    · show d.steps + 1 + (d.left - 1) = S
      omega
    · have : d.gone = true := hg
      rw [this] at ho
      exact absurd ho.1 (by simp)
theorem Armd.act {d : DM} {S k : Nat} (h : Armd d S k) (o : OpV) (hb : o.b < 256) (h4 : o.kind ≠ 4) (h5 : o.kind ≠ 5) : Armd (act o hb d) S (k + 1) := by
  have hmore := h.more (Nat.le_succ k)
  have hst := h.step
  by_cases h1 : o.kind = 1
  · have e : Go.Proofs.Ytgcghoalepkdfaa.act o hb d = d.write o.n (Sec.full o.b hb) := by simp [Go.Proofs.Ytgcghoalepkdfaa.act, h1]
    have hbd : Bd (Go.Proofs.Ytgcghoalepkdfaa.act o hb d) 6 (k + 1) := by
      have h' := h.bd
      rw [e]
      unfold DM.write
      split
      · rename_i hh
        split
        · exact h'.step
        · have e2 := h'.step
          have hw := h'.wait
          refine ⟨e2.n, e2.steps, by show (d.wait ++ [(o.n, Sec.full o.b hb)]).length ≤ _; simp; omega, e2.left, e2.out, fun x hx => ?_⟩
          have hx' : x ∈ d.wait ++ [(o.n, Sec.full o.b hb)] := hx
          have hhas : ∀ i, DM.has { d.step with wait := d.wait ++ [(o.n, Sec.full o.b hb)] } i = d.has i := fun i => by simp only [DM.has]; rw [DM.step_n]
          rw [hhas]
          rcases List.mem_append.1 hx' with hx' | hx'
          · exact h'.in_ x hx'
          · simp only [List.mem_singleton] at hx'
            subst hx'
            exact hh
      · exact h'.more (Nat.le_succ _)
    refine ⟨hbd, ?_, ?_, ?_⟩
    · rw [e]; unfold DM.write; split
      · split
        · exact hst.armed
        · exact hst.armed
      · exact h.armed
    · rw [e]; unfold DM.write; split
      · split
        · exact hst.sum
        · exact hst.sum
      · exact h.sum
    · rw [e]; unfold DM.write; split
      · split
        · exact hst.gone
        · exact hst.gone
      · exact h.gone
  by_cases h2 : o.kind = 2
  · have e : Go.Proofs.Ytgcghoalepkdfaa.act o hb d = d.flush := by simp [Go.Proofs.Ytgcghoalepkdfaa.act, h2]
    rw [e]
    unfold DM.flush
    split
    · exact hst
    · exact ⟨hst.bd.settle _, hst.armed, hst.sum, hst.gone⟩
  · have e : Go.Proofs.Ytgcghoalepkdfaa.act o hb d = d := by simp [Go.Proofs.Ytgcghoalepkdfaa.act, h1, h2, h4, h5]
    rw [e]
    exact hmore
/-- once it is gone it stays so -/
theorem act_gone {d : DM} (o : OpV) (hb : o.b < 256) (h4 : o.kind ≠ 4) (h5 : o.kind ≠ 5) (hg : d.gone = true) : (act o hb d).gone = true := by
  have ho : d.off = true := by simp [DM.off, hg]
  unfold act DM.write DM.flush
  rw [if_neg h4, if_neg h5, if_pos ho, if_pos ho]
  have e : d.step.gone = true := by simp [DM.step, ho]
  split
  · split
    · exact e
    · exact hg
  · split
    · exact e
    · exact hg
theorem Armd.new (S : Nat) (hS : S ≤ 9223372036854775807) : Armd ((DM.new 6).arm S) S 0 := by
  have e : (DM.new 6).arm S = { DM.new 6 with armed := true, left := S } := by simp [DM.arm]; intro h; omega
  rw [e]
  have h := Bd.new 6
  exact ⟨⟨rfl, Nat.le_refl _, Nat.le_refl _, hS, h.out, h.in_⟩, rfl, by simp [DM.new], (fun hg => by cases hg)⟩
theorem Holds.x {w0 w : World} {g : Nat} {d : DM} {X Y : List Nat} (h : Holds w0 w g d (X ++ Y)) : Holds w0 w g d Y := h.mono fun k hk => by simp [hk]
theorem Script.more' {w : World} {B B' : Nat} {A : Option Addr} {m : Nat} {os : List OpV} (h : Script w B A m os) (hB : B ≤ B') : Script w B' A m os :=
  ⟨h.1.more hB, fun o ho => ⟨(h.2 o ho).1, (h.2 o ho).2.more hB⟩⟩
set_option maxRecDepth 100000 in
set_option maxHeartbeats 4000000 in
theorem diskArmed_walk (x0 : Int) (mx : -9223372036854775808 ≤ x0) (ox : x0 ≤ 9223372036854775807) (A0 : Option Addr) (n0 c0 : Nat) (os : List OpV) (m0 : n0 ≤ 9223372036854775807) (o0 : ∀ o ∈ os, o.keep.length ≤ 9223372036854775807 ∧ -9223372036854775808 ≤ o.n ∧ o.n ≤ 9223372036854775807) {w : World} (hS : Script w w.heap.size A0 n0 os) :
    Calls Try.prog 5 #[.int .i64 x0, .slice A0 n0 c0] w fun e w' => e = .returned (.bool true) ∧ Below w.heap.size w w' := by
  have HS := Lib.hid hS
  have HO := Lib.hid o0
  clear hS o0
  go_enter Try.func5, Try.ntmps5
  go_wp2_with fail
  refine (alive_any _).mono ?_
  rintro e w1 ⟨rfl, b1⟩
  have S1 := (HS.out.below b1).more' b1.size
  go_wp2_with fail
  refine (long_any A0 n0 c0 os w1 S1 m0 (fun o ho => (HO.out o ho).1)).mono ?_
  rintro e w2 ⟨r, rfl, b2, hr⟩
  have B2 := b1.trans (b2.mono b1.size)
  clear S1 b1 b2
  cases r with
  | true =>
    go_wp2
    go_ret
    exact ⟨rfl, B2⟩
  | false =>
    obtain ⟨hn81, hk200⟩ := hr rfl
    have HK := Lib.hid hk200
    clear hr hk200
    by_cases h0 : x0 < 0
    · have hd0 : decide (x0 < 0) = true := by simpa using h0
      go_wp2
      go_ret
      exact ⟨rfl, B2⟩
    · have hd0 : decide (x0 < 0) = false := by simpa using h0
      obtain ⟨S, rfl⟩ := Int.eq_ofNat_of_zero_le (show 0 ≤ x0 by omega)
      clear h0
      go_wp2_with fail
      refine (new_good w2 w.heap.size 6 (by omega) (by omega) B2.size).mono ?_
      intro e w3 hm
      obtain ⟨g, rfl, h3⟩ := Holds.made B2 hm
      clear hm B2
      go_wp2_with fail
      refine (hold_arm h3 (S : Int) (by omega)).mono ?_
      rintro e w4 ⟨rfl, h4, -⟩
      have hae : armErr (S : Int) = 0 := by simp [armErr]
      rw [hae]
      simp only [errV]
      have H4 := Lib.hid h4
      clear h3 h4 hae
      go_wp2
      go_loopg [33] n0 (fun gk i wr => ∃ (k : Nat) (d : DM), k ≤ n0 ∧ gk = n0 - k ∧ i = .int .i64 k ∧ Armd d S k ∧ Holds w wr g d [])
      case atStart => exact ⟨0, _, by omega, by omega, rfl, Armd.new S (by omega), H4.out⟩
      case round =>
        obtain ⟨k, d, hk, rfl, rfl, ha, hd⟩ := hrel
        by_cases hlt : k < n0
        · obtain ⟨ad, o, rfl, hadb, ho, hc, hob, -⟩ := (HS.out.below hd.since).get hlt
          have hmem := List.mem_of_getElem? ho
          obtain ⟨-, hmin, hmax⟩ := HO.out o hmem
          have hkp := HK.out o hmem
          have hKR := (HS.out.2 o hmem).2
          have hu := Try.underlying40
          have hi : (Try.prog.info? 40).map (·.size) = some o.cs.length := op_size
          have hzo := op_zero
          have B0 := Lib.hid (Blk.new wr 40 o.cs.toArray)
          have D0 := Lib.hid (hd.push (.cells o.cs.toArray 40))
          have q0 : (wr.alloc (.cells o.cs.toArray 40)).cell? ⟨wr.heap.size, 0, none⟩ = some (.int .i64 o.kind) := by rw [B0.out.cell]; rfl
          have HA := Lib.hid ha
          clear hd ha ho
          by_cases h4 : o.kind = 4
          · have hk4 : (o.kind == 4) = true := by simpa using h4
            go_wp2_with (first
              | (refine wpList_load_at rfl 40 (.tmp 35) rfl _ rfl o.cs _ hc hu rfl hi ?_)
              | (refine wpList_store_newN rfl 40 (.tmp 8) (.tmp 36) rfl wr.heap.size rfl o.cs _ rfl rfl hi rfl o.one ?_))
            go_roundg (n0 - (k + 1))
            case measure => omega
            case rel => exact ⟨k + 1, d, by omega, rfl, by go_num, HA.out.more (by omega), D0.out.mono (fun k hk => by cases hk)⟩
          · by_cases h5 : o.kind = 5
            · have hk4 : (o.kind == 4) = false := by simpa using h4
              have hk5 : (o.kind == 5) = true := by simpa using h5
              go_wp2_with (first
                | (refine wpList_load_at rfl 40 (.tmp 35) rfl _ rfl o.cs _ hc hu rfl hi ?_)
                | (refine wpList_store_newN rfl 40 (.tmp 8) (.tmp 36) rfl wr.heap.size rfl o.cs _ rfl rfl hi rfl o.one ?_))
              go_roundg (n0 - (k + 1))
              case measure => omega
              case rel => exact ⟨k + 1, d, by omega, rfl, by go_num, HA.out.more (by omega), D0.out.mono (fun k hk => by cases hk)⟩
            · have hk4 : (o.kind == 4) = false := by simpa using h4
              have hk5 : (o.kind == 5) = false := by simpa using h5
              go_wp2_with (first
                | (refine wpList_load_at rfl 40 (.tmp 35) rfl _ rfl o.cs _ hc hu rfl hi ?_)
                | (refine wpList_store_newN rfl 40 (.tmp 8) (.tmp 36) rfl wr.heap.size rfl o.cs _ rfl rfl hi rfl o.one ?_)
                | (go_at_call 24; refine (hold_down D0.out).mono ?_; rintro e w' ⟨rfl, rfl⟩)
                | (go_at_call 26; refine (hold_steps D0.out).mono ?_; rintro e w' ⟨rfl, rfl⟩))
              have hSb : Blk (wr.alloc (.cells o.cs.toArray 40)).drew wr.heap.size 40 o.cs.toArray := B0.out
              refine any_beginL (fun w' => Blk w' wr.heap.size 40 o.cs.toArray) 99 (by kernel_rfl) ?_
              refine S_take (i := 0) (v := .pointer (some ⟨g, 0, none⟩)) rfl rfl (by kernel_rfl) (by kernel_rfl) (by kernel_rfl) (fun _ _ _ h => h) (Or.inl ⟨by rfl, fun w _ => by kernel_rfl⟩) hSb ?_
              simp only [Act.put, List.getElem_toArray, List.getElem_cons_succ, List.getElem_cons_zero, List.setIfInBounds_toArray, List.set_cons_zero, List.set_cons_succ]
              refine S_take (i := 2) (v := .agg o.cs.toArray) rfl rfl (by kernel_rfl) (by kernel_rfl) (by kernel_rfl) (fun _ _ _ h => h) (Or.inl ⟨by rfl, fun w hw => exec_load_blk 40 (.tmp 8) rfl _ _ _ rfl hw hu rfl hi⟩) hSb ?_
              simp only [Act.put, List.getElem_toArray, List.getElem_cons_succ, List.getElem_cons_zero, List.setIfInBounds_toArray, List.set_cons_zero, List.set_cons_succ]
              refine L_one (j := 1) (by kernel_rfl) rfl (by rfl) ?_
              simp only [Act.put, List.getElem_toArray, List.getElem_cons_succ, List.getElem_cons_zero, List.setIfInBounds_toArray, List.set_cons_zero, List.set_cons_succ]
              refine wp_called (by kernel_rfl) (two_new D0.out.drew 6 (by omega) (by omega)) ?_
              rintro e w5 ⟨A1, c1, rfl, h5', b5, hn5⟩
              have b5' := below_drew' b5
              refine ⟨_, rfl, B0.out.below b5' B0.out.lt, ?_⟩
              simp only [Act.put, List.getElem_toArray, List.getElem_cons_succ, List.getElem_cons_zero, List.setIfInBounds_toArray, List.set_cons_zero, List.set_cons_succ]
              refine L_one (j := 3) (by kernel_rfl) rfl (by rfl) ?_
              simp only [Act.put, List.getElem_toArray, List.getElem_cons_succ, List.getElem_cons_zero, List.setIfInBounds_toArray, List.set_cons_zero, List.set_cons_succ]
              refine wp_called (by kernel_rfl) (do_any h5' o hob (HA.out.bd.small (by omega)) ((Bd.new 6).small (by omega)) hmin hmax (by omega) hKR) ?_
              rintro e w6 ⟨A2, c2, W2, cw2, l2, b, rfl, h6, k6, -⟩
              have B6 := k6.blk (by simp) (B0.out.below b5' B0.out.lt)
              refine ⟨_, rfl, B6, ?_⟩
              simp only [Act.put, List.getElem_toArray, List.getElem_cons_succ, List.getElem_cons_zero, List.setIfInBounds_toArray, List.set_cons_zero, List.set_cons_succ]
              refine S_take (i := 4) (v := .tuple #[.agg (rv A2 c2 W2 cw2 l2 (act o hob (DM.new 6))).toArray, .bool b]) rfl rfl (by kernel_rfl) (by kernel_rfl) (by kernel_rfl) (fun _ _ _ h => h) (Or.inl ⟨by rfl, fun w _ => by kernel_rfl⟩) B6 ?_
              simp only [Act.put, List.getElem_toArray, List.getElem_cons_succ, List.getElem_cons_zero, List.setIfInBounds_toArray, List.set_cons_zero, List.set_cons_succ]
              refine S_take (i := 5) (v := .agg (rv A2 c2 W2 cw2 l2 (act o hob (DM.new 6))).toArray) rfl rfl (by kernel_rfl) (by kernel_rfl) (by kernel_rfl) (fun _ _ _ h => h) (Or.inl ⟨by rfl, fun w _ => by kernel_rfl⟩) B6 ?_
              simp only [Act.put, List.getElem_toArray, List.getElem_cons_succ, List.getElem_cons_zero, List.setIfInBounds_toArray, List.set_cons_zero, List.set_cons_succ]
              refine S_take (i := 6) (v := .bool b) rfl rfl (by kernel_rfl) (by kernel_rfl) (by kernel_rfl) (fun _ _ _ h => h) (Or.inl ⟨by rfl, fun w _ => by kernel_rfl⟩) B6 ?_
              simp only [Act.put, List.getElem_toArray, List.getElem_cons_succ, List.getElem_cons_zero, List.setIfInBounds_toArray, List.set_cons_zero, List.set_cons_succ]
              refine L_done (by kernel_rfl) ?_
              refine NoPanic.normal ?_
              have H6 := Lib.hid (h6.disk.mono (Y := []) (fun k hk => by cases hk))
              have ha1 := HA.out.act o hob h4 h5
              have hgg := fun hg => act_gone (d := d) o hob h4 h5 hg
              have hsum := HA.out.sum
              have hgl := HA.out.gone
              have HA1 := Lib.hid ha1
              have hsum1 := ha1.sum
              have hgl1 := ha1.gone
              generalize hd1 : act o hob d = d1 at *
              clear h6 k6 B6 hSb q0 ha1 hd1
              cases hg : d.gone with
              | true =>
                have e1 : d.steps = S := by have := hgl hg; omega
                have hg1 : d1.gone = true := hgg hg
                have e2 : d1.steps = S := by have := hgl1 hg1; omega
                rw [e1]
                clear hgl hgl1 hsum hsum1 hgg e1
                go_wp2_with (first
                  | (go_at_call 24; refine (hold_down H6.out).mono ?_; rintro e w' ⟨rfl, rfl⟩; rw [hg1])
                  | (go_at_call 26; refine (hold_steps H6.out).mono ?_; rintro e w' ⟨rfl, rfl⟩; rw [e2]))
                go_roundg (n0 - (k + 1))
                case measure => omega
                case rel => exact ⟨k + 1, d1, by omega, rfl, by go_num, HA1.out, H6.out⟩
              | false =>
                have hle : decide ((S : Int) < (d1.steps : Int)) = false := by simp; omega
                have hle2 : decide (S < d1.steps) = false := by simp; omega
                cases hg1 : d1.gone with
                | true =>
                  have e2 : d1.steps = S := by have := hgl1 hg1; omega
                  clear hgl hgl1 hsum hsum1 hgg hle hle2
                  go_wp2_with (first
                    | (go_at_call 24; refine (hold_down H6.out).mono ?_; rintro e w' ⟨rfl, rfl⟩; rw [hg1])
                    | (go_at_call 26; refine (hold_steps H6.out).mono ?_; rintro e w' ⟨rfl, rfl⟩; rw [e2]))
                  go_roundg (n0 - (k + 1))
                  case measure => omega
                  case rel => exact ⟨k + 1, d1, by omega, rfl, by go_num, HA1.out, H6.out⟩
                | false =>
                  clear hgl hgl1 hsum hsum1 hgg
                  go_wp2_with (first
                    | (go_at_call 24; refine (hold_down H6.out).mono ?_; rintro e w' ⟨rfl, rfl⟩; rw [hg1])
                    | (go_at_call 26; refine (hold_steps H6.out).mono ?_; rintro e w' ⟨rfl, rfl⟩))
                  go_roundg (n0 - (k + 1))
                  case measure => omega
                  case rel => exact ⟨k + 1, d1, by omega, rfl, by go_num, HA1.out, H6.out⟩
        · have hsm := ha.bd.small (by omega)
          have HD := Lib.hid hd
          clear hd
          go_wp2_with fail
          refine (hold_crash HD.out hsm.wait none 0 0 [] (fun _ _ _ _ => Reads.none_)).mono ?_
          rintro e w5 ⟨rfl, h5, -⟩
          have e1 : (d.crash []).gone = false := rfl
          have e2 : (d.crash []).stepErr = 0 := rfl
          have hs1 : (d.crash []).steps < 4611686018427387904 := hsm.steps
          have hs2 : (d.crash []).left ≤ 9223372036854775807 := Nat.zero_le _
          have hs3 : (d.crash []).wait.length ≤ 1000000 := Nat.zero_le _
          have H5 := Lib.hid h5
          generalize d.crash [] = d5 at *
          clear h5
          go_wp2_with fail
          refine (hold_down H5.out).mono ?_
          rintro e w' ⟨rfl, rfl⟩
          rw [e1]
          go_wp2_with fail
          refine (hold_flush H5.out hs1 hs2 hs3).mono ?_
          rintro e w6 ⟨rfl, h6, -⟩
          rw [e2]
          simp only [errV]
          go_wp2
          go_ret
          exact ⟨rfl, h6.since⟩
end Go.Proofs.Ytgcghoalepkdfaa
