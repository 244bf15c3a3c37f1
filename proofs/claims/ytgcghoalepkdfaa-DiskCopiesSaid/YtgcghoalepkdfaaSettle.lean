/-
  What the disk's settle turns: the writes that wait are done whose place is kept. Conditions: the disk lies where it is said to; no more than a million writes wait; the function that tells what is kept has a contract of its own.
-/
import Derived.Test.YtgcghoalepkdfaaWrite
namespace Go.Proofs.Ytgcghoalepkdfaa
open Go.RowKit
set_option linter.unusedSimpArgs false
attribute [local go_sem ↓] Go.wp_at_zero Go.wp_at_succ
theorem settle_any (w : World) (base g gm : Nat) (v : Value) (d : DM) (h : Lies w base g gm v d) (hw : d.wait.length ≤ 1000000) (f : Nat) (cap : Array Value) (kept : Nat → Bool) (I : World → Prop) (hI0 : I w)
    (hIs : ∀ W W', Only [gm] W W' → I W → I W') (hcf : ∀ args W, (callFunc f args).run Try.prog W = .ok (.enter f args) W)
    (hK : ∀ (k : Nat) W, k < d.wait.length → I W → Calls Try.prog f (#[.int .i64 k] ++ cap) W fun e W' => e = .returned (.bool (kept k)) ∧ W = W') :
    Calls Try.prog 35 #[.pointer (some ⟨g, 0, none⟩), .func (.func f) #[] cap] w fun e w' => e = .returned (.tuple #[]) ∧ Lies w' base g gm (.slice none 0 0) (d.settle kept) ∧ Only [g, gm] w w' := by
  obtain ⟨-, -, -, -, -, c5, c6, hf⟩ := h.cells
  have f6 := hf 6
  clear hf
  obtain ⟨A, cp, rfl⟩ : ∃ A cp, v = .slice A d.wait.length cp := by
    rcases h.row.2 with ⟨rfl, hn⟩ | ⟨g', cap, cur, rfl, _⟩
    · rw [hn]; exact ⟨_, _, rfl⟩
    · exact ⟨_, _, rfl⟩
  have HI0 := Lib.hid hI0
  have HIs := Lib.hid hIs
  have HK := Lib.hid hK
  have H := Lib.hid h
  clear h hI0 hIs hK
  go_enter Try.func35, Try.ntmps35
  go_wp2
  go_loopw [11] (fun i wr => ∃ k : Nat, k ≤ d.wait.length ∧ i = .int .i64 k ∧ Lies wr base g gm (.slice A d.wait.length cp) { d with sure := settled kept 0 (d.wait.take k) d.sure } ∧ Only [gm] w wr ∧ I wr) (fun i _ => d.wait.length - (intOf i).toNat)
  case atStart => exact ⟨0, Nat.zero_le _, rfl, by simpa [settled] using H.out, Only.refl _ _, HI0.out⟩
  case round =>
    obtain ⟨k, hk, rfl, hL, ho, hI⟩ := hrel
    by_cases hlt : k < d.wait.length
    · obtain ⟨gw, x, rfl, hnc, hx, hr, hbg, hgl⟩ := row_at wr_len hL.row rfl hlt
      have hu := Try.underlying76
      have hi : (Try.prog.info? 76).map (·.size) = some (wrc x).length := by rw [wr_len]; exact write_size
      obtain ⟨Z, hZ1, hZ2⟩ := write_zero_at
      have Hx := Lib.hid hx
      have HL := Lib.hid hL
      have HI := Lib.hid hI
      have Ho := Lib.hid ho
      clear hx hL hI ho
      go_wp2_with (first
        | (refine wpList_load_mid rfl 76 (.tmp 14) rfl gw (k * 129) rfl (wrc x) _ hr hu rfl hi ?_)
        | (refine wpList_store_new rfl 76 (.tmp 5) (.tmp 15) rfl (wrc x) Z rfl rfl hi (by rw [hZ2, wr_len]) (wr_one x) ?_))
      refine (HK.out k _ hlt (HIs.out _ _ ((Only.refl _ _).alloc _) HI.out)).mono ?_
      rintro e w' ⟨rfl, rfl⟩
      cases hkp : kept k with
      | false =>
        have Hkp := Lib.hid hkp
        clear hkp
        go_wp2
        go_roundw
        case rel =>
          refine ⟨k + 1, by omega, by go_num, ?_, Ho.out.alloc _, HIs.out _ _ ((Only.refl _ _).alloc _) HI.out⟩
          rw [List.take_add_one, Hx.out, Option.toList_some, settled_snoc, List.length_take, Nat.min_eq_left hk, Nat.zero_add, Hkp.out]
          exact HL.out.alloc _
        case measure => simp [intOf]; omega
      | true =>
        have Hkp := Lib.hid hkp
        clear hkp
        go_wp2
        have HLa := Lib.hid (HL.out.alloc (.cells (wrc x).toArray 76))
        have HIa := Lib.hid (HIs.out _ _ ((Only.refl _ wr).alloc (.cells (wrc x).toArray 76)) HI.out)
        have Hoa := Lib.hid (Ho.out.alloc (.cells (wrc x).toArray 76))
        have hbx : Blk (wr.alloc (.cells (wrc x).toArray 76)) wr.heap.size 76 (wrc x).toArray := Blk.new wr _ _
        have hwa : (wr.alloc (.cells (wrc x).toArray 76)).heap.size = wr.heap.size + 1 := by simp
        generalize hga : wr.alloc (.cells (wrc x).toArray 76) = wa at *
        clear hga
        obtain ⟨f0, hm0, hf0⟩ := HLa.out.map
        obtain ⟨-, -, -, -, -, k5, -, -⟩ := HLa.out.cells
        obtain ⟨w3, hrun, hm3, hg3, hs3⟩ := run_mapUpdate_map (P := Try.prog) (w := wa.drew) Try.underlying62 Try.underlying3 (hm0.of rfl) x.1 x.2.v
        unfold Sec.v at hrun
        have hgm : gm ≠ g := hm0.ne_blk HLa.out.blk
        have hgb : gm ≠ wr.heap.size := hm0.ne_blk hbx
        have hgl1 := HLa.out.blk.lt
        have cat : wa.cell? ⟨wr.heap.size, 128, none⟩ = some (.int .i64 x.1) := by
          rw [hbx.cell]
          simp [wrc, x.2.cs_len]
        have rat : wa.rangeAt wr.heap.size 0 x.2.cs := fun j u hj => by
          rw [Nat.zero_add, hbx.cell]
          have : j < x.2.cs.length := (List.getElem?_eq_some_iff.1 hj).1
          simp only [wrc, List.getElem?_toArray]
          rw [List.getElem?_append_left this]
          exact hj
        have hu2 := Try.underlying47
        have hi2 : (Try.prog.info? 47).map (·.size) = some x.2.cs.length := by rw [x.2.cs_len]; exact sec_size
        clear hu hi
        have Hm3 := Lib.hid hm3
        have Hg3 := Lib.hid hg3
        have Hs3 := Lib.hid hs3
        have Hf0 := Lib.hid hf0
        have Hbx := Lib.hid hbx
        have Hwa := Lib.hid hwa
        clear hm3 hg3 hs3 hf0 hbx hwa
        go_region_held3 (fun w' => w'.cell? ⟨g, 5, none⟩ = some (.map (some gm)) ∧ w'.cell? ⟨wr.heap.size, 128, none⟩ = some (.int .i64 x.1) ∧ w'.rangeAt wr.heap.size 0 x.2.cs)
          (first
            | exact ⟨k5, cat, rat⟩
            | exact ⟨(Hg3.out.cell_far _ hgl1 (by simpa using Ne.symm hgm)).trans k5, (Hg3.out.cell_far _ Hbx.out.lt (by simpa using Ne.symm hgb)).trans cat, fun j u hj => (Hg3.out.cell_far _ Hbx.out.lt (by simpa using Ne.symm hgb)).trans (rat j u hj)⟩)
          (fail)
        go_wp2
        go_roundw
        case rel =>
          refine ⟨k + 1, by omega, by go_num, ?_, Hoa.out.drew.grown Hg3.out (fun j e => .inl (by injection e with e; simp [e])), HIs.out _ _ ((Only.refl _ wa).drew.grown Hg3.out (fun j e => .inl (by injection e with e; simp [e]))) HIa.out⟩
          rw [List.take_add_one, Hx.out, Option.toList_some, settled_snoc, List.length_take, Nat.min_eq_left hk, Nat.zero_add, Hkp.out, if_pos rfl]
          exact (HLa.out.drew).maps Hf0.out Hg3.out Hm3.out
        case measure => simp [intOf]; omega
    · obtain rfl : k = d.wait.length := by omega
      obtain ⟨-, -, -, -, -, -, r6, rf⟩ := hL.cells
      have rf6 := rf 6
      clear rf
      have HL := Lib.hid hL
      have HI := Lib.hid hI
      have Ho := Lib.hid ho
      clear hL hI ho
      go_wp2
      go_end0
      rw [List.take_length] at HL
      have o2 : Only [g, gm] w (wr.setCell ⟨g, 6, none⟩ (.slice none 0 0)) := (Ho.out.mono (fun k hk => by simp at hk; simp [hk])).setCell (by simp) _
      refine ⟨rfl, ?_, o2⟩
      have hb := HL.out.blk.set_ 6 (.slice none 0 0)
      obtain ⟨f0, hm0, hf0⟩ := HL.out.map
      exact ⟨hb, ⟨f0, hm0.of (Below.heap_setCell _ _ _ _ (hm0.ne_blk HL.out.blk)), hf0⟩, World.ownsRow_nil _ _ _ _, H.out.bg, H.out.bm⟩
theorem yes_any (k : Int) (w : World) : Calls Try.prog 36 #[.int .i64 k] w fun e w' => e = .returned (.bool true) ∧ w = w' := by
  go_enter Try.func36, Try.ntmps36
  go_wp2
  go_ret
  exact ⟨rfl, rfl⟩
/-- the flags of what is kept, as cells -/
def flags (l : List Bool) : List Value := l.map Value.bool
theorem kept_flag (A : Option Addr) (c B b : Nat) (keep : List Bool) (k : Nat) (w : World) (hb : w.cell? ⟨b, 0, none⟩ = some (.slice A keep.length c)) (hr : Reads w B 1 A keep.length (flags keep)) :
    Calls Try.prog 37 #[.int .i64 k, .pointer (some ⟨b, 0, none⟩)] w fun e w' => e = .returned (.bool (keptOf keep k)) ∧ w = w' := by
  by_cases hlt : k < keep.length
  · obtain ⟨ad, u, rfl, _, hu, hc⟩ := hr.at_ hlt
    have hu2 : u = .bool (keptOf keep k) := by
      simp only [flags, List.getElem?_map, List.getElem?_eq_getElem hlt, Option.map_some, Option.some.injEq] at hu
      rw [← hu]
      simp [keptOf, hlt]
    have HU := Lib.hid hu2
    have hd : decide ((k : Int) < (keep.length : Int)) = true := by simpa using hlt
    clear hu2 hu hr
    have hc2 : w.cell? (ad.add k) = some (.bool (keptOf keep k)) := by rw [← HU.out]; exact hc
    clear hc HU
    go_enter Try.func37, Try.ntmps37
    go_wp2
    go_ret
    exact ⟨by simp, rfl⟩
  · have hd : decide ((k : Int) < (keep.length : Int)) = false := by simpa using hlt
    have hu2 : keptOf keep k = false := by simp [keptOf, List.getElem?_eq_none (Nat.le_of_not_lt hlt)]
    have HU := Lib.hid hu2
    clear hu2 hr
    go_enter Try.func37, Try.ntmps37
    go_wp2
    go_ret
    exact ⟨by rw [HU.out]; rfl, rfl⟩
theorem only_two {w w' : World} {g gm : Nat} {v : Value} (h : Only [g, gm] w w') : Only (g :: gm :: rowOf v) w w' := h.mono (fun k hk => by simp at hk ⊢; rcases hk with rfl | rfl <;> simp)
theorem flush_any (w : World) (base g : Nat) (F : List Nat) (d : DM) (h : DiskAt w base F g d) (hs : d.steps < 4611686018427387904) (hl : d.left ≤ 9223372036854775807) (hw : d.wait.length ≤ 1000000) :
    Calls Try.prog 19 #[.pointer (some ⟨g, 0, none⟩)] w fun e w' => e = .returned (errV d.stepErr) ∧ DTo w base F g d.flush w' := by
  obtain ⟨gm, v, rfl, h⟩ := h
  cases ho : d.off with
  | true =>
    have hse : d.stepErr = 3 := by simp [DM.stepErr, ho]
    have Ho := Lib.hid ho
    have Hse := Lib.hid hse
    have H := Lib.hid h
    clear h ho hse
    go_enter Try.func19, Try.ntmps19
    go_wp2_with fail
    refine (step_any _ base g gm v d H.out hs hl).mono ?_
    rintro e w1 ⟨rfl, h1, o1⟩
    have H1 := Lib.hid h1
    clear h1
    rw [Hse.out]
    simp only [errV]
    go_wp2
    go_ret
    refine ⟨by rw [Hse.out]; rfl, ?_⟩
    unfold DM.flush
    rw [Ho.out]
    exact H1.out.to o1
  | false =>
    have hse : d.stepErr = 0 := by simp [DM.stepErr, ho]
    have Ho := Lib.hid ho
    have Hse := Lib.hid hse
    have H := Lib.hid h
    clear h ho hse
    go_enter Try.func19, Try.ntmps19
    go_wp2_with fail
    refine (step_any _ base g gm v d H.out hs hl).mono ?_
    rintro e w1 ⟨rfl, h1, o1⟩
    have H1 := Lib.hid h1
    clear h1
    rw [Hse.out]
    simp only [errV]
    go_wp2_with fail
    refine (settle_any w1 base g gm v d.step H1.out (by rw [DM.step_wait]; exact hw) 36 #[] (fun _ => true) (fun _ => True) trivial (fun _ _ _ _ => trivial) (fun _ _ => rfl) (fun k W _ _ => yes_any k W)).mono ?_
    rintro e w2 ⟨rfl, h2, o2⟩
    have H2 := Lib.hid h2
    clear h2
    go_wp2
    go_ret
    refine ⟨by rw [Hse.out]; rfl, ?_⟩
    unfold DM.flush
    rw [Ho.out]
    exact ⟨_, ⟨gm, _, rfl, H2.out⟩, (o1.mono (fun k hk => by simp at hk; simp [hk])).trans (only_two o2) (Fresh.refl _ _), fun k hk => .inl (by simp [rowOf, Value.ownBlock] at hk; rcases hk with rfl | rfl <;> simp)⟩
theorem crash_any (w : World) (base g : Nat) (F : List Nat) (d : DM) (A : Option Addr) (c B : Nat) (keep : List Bool) (h : DiskAt w base F g d) (hw : d.wait.length ≤ 1000000) (hR : ∀ W', Only F w W' → Reads W' B 1 A keep.length (flags keep)) :
    Calls Try.prog 20 #[.pointer (some ⟨g, 0, none⟩), .slice A keep.length c] w fun e w' => e = .returned (.tuple #[]) ∧ DTo w base F g (d.crash keep) w' := by
  obtain ⟨gm, v, rfl, h⟩ := h
  have H := Lib.hid h
  have HR := Lib.hid hR
  have hgw := h.blk.lt
  obtain ⟨f0, hm0, -⟩ := h.map
  have hgm := hm0.lt
  clear h hR hm0
  go_enter Try.func20, Try.ntmps20
  go_wp2_with fail
  have o0 : Only (g :: gm :: rowOf v) w (w.alloc (.cells #[.slice A keep.length c] 38)) := (Only.refl _ _).alloc _
  refine (settle_any _ base g gm v d (H.out.alloc _) hw 37 #[.pointer (some ⟨w.heap.size, 0, none⟩)] (keptOf keep)
    (fun W => W.cell? ⟨w.heap.size, 0, none⟩ = some (.slice A keep.length c) ∧ Only (g :: gm :: rowOf v) w W) ⟨?_, o0⟩ ?_ (fun _ _ => rfl)
    (fun k W _ hI => kept_flag A c B w.heap.size keep k W hI.1 (HR.out W hI.2))).mono ?_
  · rw [(Blk.new w _ _).cell]; rfl
  · intro W W' hO hI
    refine ⟨(hO.cell (p := ⟨w.heap.size, 0, none⟩) (block_lt_of_cell hI.1) (by simp; omega)).trans hI.1, hI.2.trans (hO.mono (fun k hk => ?_)) (Fresh.refl _ _)⟩
    simp at hk
    simp [hk]
  rintro e w2 ⟨rfl, h2, o2⟩
  have H2 := Lib.hid h2
  have O2 := Lib.hid (o0.trans (only_two o2) (Fresh.refl _ _))
  clear h2 o2 o0
  go_wp2_with fail
  refine (restore_any w2 base g gm _ _ H2.out).mono ?_
  rintro e w3 ⟨rfl, h3, o3⟩
  have H3 := Lib.hid h3
  have O3 := Lib.hid (O2.out.trans (o3.mono (fun k hk => by simp at hk; simp [hk])) (Fresh.refl _ _))
  clear h3 o3
  go_wp2
  go_end0
  exact ⟨rfl, _, ⟨gm, _, rfl, H3.out⟩, O3.out, fun k hk => .inl (by simp [rowOf, Value.ownBlock] at hk; rcases hk with rfl | rfl <;> simp)⟩
end Go.Proofs.Ytgcghoalepkdfaa
