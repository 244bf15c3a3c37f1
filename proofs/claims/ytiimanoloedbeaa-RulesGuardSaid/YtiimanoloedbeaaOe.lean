/-
  Marks that fit; a head of another size; what Grow and MapTurn do with a copy. Conditions: the copy is the call's own, its sizes are good.
-/
import Derived.Test.YtiimanoloedbeaaOd

namespace Go.Proofs.Ytiimanoloedbeaa
open Go.RowKit Go.BigFrame
set_option linter.unusedSimpArgs false
set_option linter.unusedVariables false
set_option maxRecDepth 100000
theorem msized_lt {bs : List Nat} (h : ∀ b ∈ bs, b < 256) (k : Nat) : ∀ b ∈ sizedM bs k, b < 256 := fun b hb => by
  obtain ⟨i, _, rfl⟩ := List.mem_map.1 hb
  exact mk_lt h i
theorem objs_few {s o : Int} (hs : 0 ≤ s ∧ s ≤ 4096) (ho : isObjB o = true) : ∃ n : Nat, objsOf s o = n ∧ n ≤ 256 := by
  have h5 : o = 16 ∨ o = 32 ∨ o = 64 ∨ o = 128 ∨ o = 256 := by unfold isObjB at ho; simpa [or_assoc] using ho
  unfold objsOf
  by_cases h : s < 1
  · exact ⟨0, by rw [if_pos (.inl h)]; rfl, by omega⟩
  · rw [if_neg (by rcases h5 with rfl | rfl | rfl | rfl | rfl <;> omega)]
    refine ⟨((s - 1) / o + 1).toNat, ?_, ?_⟩ <;> rcases h5 with rfl | rfl | rfl | rfl | rfl <;> omega
/-- marks that fit -/
def fitM (m : MkV) (n : Int) : MkV := if m.on then ⟨true, m.good, sizedM m.row n.toNat⟩ else m
def fitV (v : HdV) : HdV := { v with mx := fitM v.mx (objsOf v.size v.obj) }
/-- what fit leaves: the head's block, and new memory -/
def FitTo (W : World) (base g : Nat) (c : HA) (e : Ending) (w' : World) : Prop :=
  e = .returned (.tuple #[]) ∧ Only [g] W w' ∧ ∃ c' : HA, Blk w' g 36 c'.cs ∧ c'.N w' base [] ∧ c'.v = fitV c.v ∧ c'.sn = c.sn ∧ c'.S = c.S ∧ c'.vw.on = c.vw.on ∧ (c.vw.on = false → c'.vw.M = c.vw.M) ∧ (c.vw.on = true → ∃ gm, c'.vw.M = some ⟨gm, 0, none⟩ ∧ W.heap.size ≤ gm)
set_option maxHeartbeats 16000000 in
theorem fit_any (W : World) (base g : Nat) (c : HA) (hb : base ≤ W.heap.size) (hg : base ≤ g) (k : Blk W g 36 c.cs) (hN : c.N W base []) (hgw : g < W.heap.size) (hs : 0 ≤ c.vw.size ∧ c.vw.size ≤ 4096) (ho : isObjB c.obj = true) :
    Calls Try.prog 136 #[.pointer (some ⟨g, 0, none⟩)] W (FitTo W base g c) := by
  obtain ⟨n, hn, hn2⟩ := objs_few hs ho
  have HOB : Hid (∀ W', Below W.heap.size W W' → Calls Try.prog 32 #[.int .i64 c.vw.size, .int .i64 c.obj] W' fun e w' => e = .returned (.int .i64 (n : Int)) ∧ Below W'.heap.size W' w') := Lib.hid fun W' hW' => by rw [← hn]; exact (objects_any c.vw.size c.obj hN.vw.size hN.obj W').mono fun e w' q => ⟨q.1, q.2 ▸ Below.refl _ _⟩
  have HSZ : Hid (∀ W', Below W.heap.size W W' → Calls Try.prog 161 #[.slice c.vw.M c.vw.row.length c.vw.cm, .int .i64 (n : Int)] W' fun e w' => ∃ gm, e = .returned (.tuple #[.slice (some ⟨gm, 0, none⟩) n n, .nilIface]) ∧ W.heap.size ≤ gm ∧ Blk w' gm 5 (u8s (sizedM c.vw.row n)).toArray ∧ Below W'.heap.size W' w') := Lib.hid fun W' hW' =>
    (sized_ok c.vw.M c.vw.row.length c.vw.cm n c.vw.row W' hn2 ((hN.vw.R.since hW').row)).mono fun e w' q => ⟨W'.heap.size, q.1, hW'.size, q.2.1, q.2.2⟩
  have HB1 : Hid (∀ W', Below W.heap.size W W' → Blk W' g 36 #[.int .i64 c.id, .int .i64 c.vw.size, .int .i64 c.obj, .int .i64 c.seq, .slice c.S c.sn.length c.cs', .bool c.vw.on, .bool c.vw.good, .slice c.vw.M c.vw.row.length c.vw.cm, .string (strOf c.vw.par), .int .i64 c.vw.ps, .int .i64 c.vw.ov, .int .i64 c.ow, .int .i64 c.it, .int .i64 c.tg]) := Lib.hid fun W' hW' => by
    have k1 : Blk W g 36 #[.int .i64 c.id, .int .i64 c.vw.size, .int .i64 c.obj, .int .i64 c.seq, .slice c.S c.sn.length c.cs', .bool c.vw.on, .bool c.vw.good, .slice c.vw.M c.vw.row.length c.vw.cm, .string (strOf c.vw.par), .int .i64 c.vw.ps, .int .i64 c.vw.ov, .int .i64 c.ow, .int .i64 c.it, .int .i64 c.tg] := k
    exact k1.of (hW'.block _ k.lt)
  have HNN : Hid (objsOf c.v.size c.v.obj = (n : Int) ∧ n ≤ 256 ∧ g < W.heap.size) := Lib.hid ⟨hn, hn2, hgw⟩
  clear hs ho hn hn2 hgw
  have K0 : Blk W g 36 #[.int .i64 c.id, .int .i64 c.vw.size, .int .i64 c.obj, .int .i64 c.seq, .slice c.S c.sn.length c.cs', .bool c.vw.on, .bool c.vw.good, .slice c.vw.M c.vw.row.length c.vw.cm, .string (strOf c.vw.par), .int .i64 c.vw.ps, .int .i64 c.vw.ov, .int .i64 c.ow, .int .i64 c.it, .int .i64 c.tg] := k
  have HK := Lib.hid (And.intro k (And.intro hN (And.intro hb hg)))
  have HS : Hid (∀ n, Below base W (W.drewN n)) := Lib.hid fun n => ⟨rfl, rfl, rfl, Nat.le_refl _, fun _ _ => rfl⟩
  clear k hN hb hg
  have q5 : W.cell? ⟨g, 5, none⟩ = some (.bool c.vw.on) := K0.cell 5
  go_enter Try.func136, Try.ntmps136
  cases hon : c.vw.on with
  | false =>
    have HON := Lib.hid hon
    rw [hon] at q5
    clear hon K0
    go_wp2
    refine bodyPost_end (results_none rfl _ _ _) rfl ?_
    exact ⟨rfl, Only.refl _ _, c, HK.out.1, HK.out.2.1, by unfold fitV fitM; rw [if_neg (by show ¬ c.vw.on = true; rw [HON.out]; simp)], rfl, rfl, rfl, fun _ => rfl, fun h => by rw [HON.out] at h; cases h⟩
  | true =>
    have HON := Lib.hid hon
    rw [hon] at q5
    clear hon K0
    go_upto_region 1 with (fail)
    have hB : Below W.heap.size W W.drew := (Below.refl _ W).drew
    have hS : ∃ u, Blk W.drew g 36 #[.int .i64 c.id, .int .i64 c.vw.size, .int .i64 c.obj, .int .i64 c.seq, .slice c.S c.sn.length c.cs', .bool c.vw.on, .bool c.vw.good, u, .string (strOf c.vw.par), .int .i64 c.vw.ps, .int .i64 c.vw.ov, .int .i64 c.ow, .int .i64 c.it, .int .i64 c.tg] ∧ Below base W W.drew := ⟨_, HB1.out _ hB, hB.mono HK.out.2.2.1⟩
    refine any_beginL (fun W' => ∃ u, Blk W' g 36 #[.int .i64 c.id, .int .i64 c.vw.size, .int .i64 c.obj, .int .i64 c.seq, .slice c.S c.sn.length c.cs', .bool c.vw.on, .bool c.vw.good, u, .string (strOf c.vw.par), .int .i64 c.vw.ps, .int .i64 c.vw.ov, .int .i64 c.ow, .int .i64 c.it, .int .i64 c.tg] ∧ Below base W W') 99 (by kernel_rfl) ?_
    refine S_take (i := 0) (v := .pointer (some ⟨g, 0, none⟩)) rfl rfl (by kernel_rfl) (by kernel_rfl) (by kernel_rfl) (fun _ _ _ h => h) (Or.inl ⟨by rfl, fun W' hw => by go_simp⟩) hS ?_
    simp only [Act.put, List.getElem_toArray, List.getElem_cons_succ, List.getElem_cons_zero, List.setIfInBounds_toArray, List.set_cons_zero, List.set_cons_succ]
    refine S_take (i := 1) (v := .pointer (some ⟨g, 0, none⟩)) rfl rfl (by kernel_rfl) (by kernel_rfl) (by kernel_rfl) (fun _ _ _ h => h) (Or.inl ⟨by rfl, fun W' hw => by go_simp⟩) hS ?_
    simp only [Act.put, List.getElem_toArray, List.getElem_cons_succ, List.getElem_cons_zero, List.setIfInBounds_toArray, List.set_cons_zero, List.set_cons_succ]
    refine S_take (i := 2) (v := .pointer (some ⟨g, 0, none⟩)) rfl rfl (by kernel_rfl) (by kernel_rfl) (by kernel_rfl) (fun _ _ _ h => h) (Or.inl ⟨by rfl, fun W' hw => by go_simp⟩) hS ?_
    simp only [Act.put, List.getElem_toArray, List.getElem_cons_succ, List.getElem_cons_zero, List.setIfInBounds_toArray, List.set_cons_zero, List.set_cons_succ]
    refine S_take (i := 3) (v := .pointer (some ⟨g, 7, none⟩)) rfl rfl (by kernel_rfl) (by kernel_rfl) (by kernel_rfl) (fun _ _ _ h => h) (Or.inl ⟨by rfl, fun W' hw => by go_simp⟩) hS ?_
    simp only [Act.put, List.getElem_toArray, List.getElem_cons_succ, List.getElem_cons_zero, List.setIfInBounds_toArray, List.set_cons_zero, List.set_cons_succ]
    refine S_take (i := 5) (v := .pointer (some ⟨g, 0, none⟩)) rfl rfl (by kernel_rfl) (by kernel_rfl) (by kernel_rfl) (fun _ _ _ h => h) (Or.inl ⟨by rfl, fun W' hw => by go_simp⟩) hS ?_
    simp only [Act.put, List.getElem_toArray, List.getElem_cons_succ, List.getElem_cons_zero, List.setIfInBounds_toArray, List.set_cons_zero, List.set_cons_succ]
    refine S_take (i := 6) (v := .pointer (some ⟨g, 0, none⟩)) rfl rfl (by kernel_rfl) (by kernel_rfl) (by kernel_rfl) (fun _ _ _ h => h) (Or.inl ⟨by rfl, fun W' hw => by go_simp⟩) hS ?_
    simp only [Act.put, List.getElem_toArray, List.getElem_cons_succ, List.getElem_cons_zero, List.setIfInBounds_toArray, List.set_cons_zero, List.set_cons_succ]
    refine S_take (i := 7) (v := .pointer (some ⟨g, 1, none⟩)) rfl rfl (by kernel_rfl) (by kernel_rfl) (by kernel_rfl) (fun _ _ _ h => h) (Or.inl ⟨by rfl, fun W' hw => by go_simp⟩) hS ?_
    simp only [Act.put, List.getElem_toArray, List.getElem_cons_succ, List.getElem_cons_zero, List.setIfInBounds_toArray, List.set_cons_zero, List.set_cons_succ]
    refine S_take (i := 8) (v := .int .i64 c.vw.size) rfl rfl (by kernel_rfl) (by kernel_rfl) (by kernel_rfl) (fun _ _ _ h => h) (Or.inl ⟨by rfl, fun W' hw => by obtain ⟨u, hk, -⟩ := hw; have k1 : W'.cell? ⟨g, 1, none⟩ = some (.int .i64 c.vw.size) := hk.cell 1; go_simp⟩) hS ?_
    simp only [Act.put, List.getElem_toArray, List.getElem_cons_succ, List.getElem_cons_zero, List.setIfInBounds_toArray, List.set_cons_zero, List.set_cons_succ]
    refine S_take (i := 9) (v := .pointer (some ⟨g, 0, none⟩)) rfl rfl (by kernel_rfl) (by kernel_rfl) (by kernel_rfl) (fun _ _ _ h => h) (Or.inl ⟨by rfl, fun W' hw => by go_simp⟩) hS ?_
    simp only [Act.put, List.getElem_toArray, List.getElem_cons_succ, List.getElem_cons_zero, List.setIfInBounds_toArray, List.set_cons_zero, List.set_cons_succ]
    refine S_take (i := 10) (v := .pointer (some ⟨g, 0, none⟩)) rfl rfl (by kernel_rfl) (by kernel_rfl) (by kernel_rfl) (fun _ _ _ h => h) (Or.inl ⟨by rfl, fun W' hw => by go_simp⟩) hS ?_
    simp only [Act.put, List.getElem_toArray, List.getElem_cons_succ, List.getElem_cons_zero, List.setIfInBounds_toArray, List.set_cons_zero, List.set_cons_succ]
    refine S_take (i := 11) (v := .pointer (some ⟨g, 2, none⟩)) rfl rfl (by kernel_rfl) (by kernel_rfl) (by kernel_rfl) (fun _ _ _ h => h) (Or.inl ⟨by rfl, fun W' hw => by go_simp⟩) hS ?_
    simp only [Act.put, List.getElem_toArray, List.getElem_cons_succ, List.getElem_cons_zero, List.setIfInBounds_toArray, List.set_cons_zero, List.set_cons_succ]
    refine S_take (i := 12) (v := .int .i64 c.obj) rfl rfl (by kernel_rfl) (by kernel_rfl) (by kernel_rfl) (fun _ _ _ h => h) (Or.inl ⟨by rfl, fun W' hw => by obtain ⟨u, hk, -⟩ := hw; have k1 : W'.cell? ⟨g, 2, none⟩ = some (.int .i64 c.obj) := hk.cell 2; go_simp⟩) hS ?_
    simp only [Act.put, List.getElem_toArray, List.getElem_cons_succ, List.getElem_cons_zero, List.setIfInBounds_toArray, List.set_cons_zero, List.set_cons_succ]
    refine L_two (i := 4) (j := 13) (by kernel_rfl) rfl rfl (by rfl) (by rfl) ?_ ?_
    · skip
      simp only [Act.put, List.getElem_toArray, List.getElem_cons_succ, List.getElem_cons_zero, List.setIfInBounds_toArray, List.set_cons_zero, List.set_cons_succ]
      have k7 : (W.drew).cell? ⟨g, 7, none⟩ = some (.slice c.vw.M c.vw.row.length c.vw.cm) := (HB1.out _ hB).cell 7
      refine wp_ran (v := .slice c.vw.M c.vw.row.length c.vw.cm) (w' := W.drew) (by go_simp) ⟨hS, ?_⟩
      simp only [Act.put, List.getElem_toArray, List.getElem_cons_succ, List.getElem_cons_zero, List.setIfInBounds_toArray, List.set_cons_zero, List.set_cons_succ]
      clear k7
      refine L_one (j := 13) (by kernel_rfl) rfl (by rfl) ?_
      simp only [Act.put, List.getElem_toArray, List.getElem_cons_succ, List.getElem_cons_zero, List.setIfInBounds_toArray, List.set_cons_zero, List.set_cons_succ]
      refine wp_called (by go_simp) (HOB.out _ hB) ?_
      rintro e W13 ⟨rfl, b⟩
      have hB := hB.trans (b.mono hB.size)
      have hS : ∃ u, Blk W13 g 36 #[.int .i64 c.id, .int .i64 c.vw.size, .int .i64 c.obj, .int .i64 c.seq, .slice c.S c.sn.length c.cs', .bool c.vw.on, .bool c.vw.good, u, .string (strOf c.vw.par), .int .i64 c.vw.ps, .int .i64 c.vw.ov, .int .i64 c.ow, .int .i64 c.it, .int .i64 c.tg] ∧ Below base W W13 := ⟨_, HB1.out _ hB, hB.mono HK.out.2.2.1⟩
      clear b
      refine ⟨_, rfl, hS, ?_⟩
      simp only [Act.put, List.getElem_toArray, List.getElem_cons_succ, List.getElem_cons_zero, List.setIfInBounds_toArray, List.set_cons_zero, List.set_cons_succ]
      refine L_one (j := 14) (by kernel_rfl) rfl (by rfl) ?_
      simp only [Act.put, List.getElem_toArray, List.getElem_cons_succ, List.getElem_cons_zero, List.setIfInBounds_toArray, List.set_cons_zero, List.set_cons_succ]
      refine wp_called (by go_simp) (HSZ.out _ hB) ?_
      rintro e W14 ⟨gm, rfl, hgm, km, b⟩
      have hB := hB.trans (b.mono hB.size)
      have hS : ∃ u, Blk W14 g 36 #[.int .i64 c.id, .int .i64 c.vw.size, .int .i64 c.obj, .int .i64 c.seq, .slice c.S c.sn.length c.cs', .bool c.vw.on, .bool c.vw.good, u, .string (strOf c.vw.par), .int .i64 c.vw.ps, .int .i64 c.vw.ov, .int .i64 c.ow, .int .i64 c.it, .int .i64 c.tg] ∧ Below base W W14 := ⟨_, HB1.out _ hB, hB.mono HK.out.2.2.1⟩
      clear b
      refine ⟨_, rfl, hS, ?_⟩
      simp only [Act.put, List.getElem_toArray, List.getElem_cons_succ, List.getElem_cons_zero, List.setIfInBounds_toArray, List.set_cons_zero, List.set_cons_succ]
      refine S_take (i := 15) (v := .tuple #[.slice (some ⟨gm, 0, none⟩) n n, .nilIface]) rfl rfl (by kernel_rfl) (by kernel_rfl) (by kernel_rfl) (fun _ _ _ h => h) (Or.inl ⟨by rfl, fun W' hw => by go_simp⟩) hS ?_
      simp only [Act.put, List.getElem_toArray, List.getElem_cons_succ, List.getElem_cons_zero, List.setIfInBounds_toArray, List.set_cons_zero, List.set_cons_succ]
      refine S_take (i := 16) (v := .slice (some ⟨gm, 0, none⟩) n n) rfl rfl (by kernel_rfl) (by kernel_rfl) (by kernel_rfl) (fun _ _ _ h => h) (Or.inl ⟨by rfl, fun W' hw => by go_simp⟩) hS ?_
      simp only [Act.put, List.getElem_toArray, List.getElem_cons_succ, List.getElem_cons_zero, List.setIfInBounds_toArray, List.set_cons_zero, List.set_cons_succ]
      refine S_take (i := 17) (v := .nilIface) rfl rfl (by kernel_rfl) (by kernel_rfl) (by kernel_rfl) (fun _ _ _ h => h) (Or.inl ⟨by rfl, fun W' hw => by go_simp⟩) hS ?_
      simp only [Act.put, List.getElem_toArray, List.getElem_cons_succ, List.getElem_cons_zero, List.setIfInBounds_toArray, List.set_cons_zero, List.set_cons_succ]
      refine S_take (i := 18) (v := .pointer (some ⟨g, 0, none⟩)) rfl rfl (by kernel_rfl) (by kernel_rfl) (by kernel_rfl) (fun _ _ _ h => h) (Or.inl ⟨by rfl, fun W' hw => by go_simp⟩) hS ?_
      simp only [Act.put, List.getElem_toArray, List.getElem_cons_succ, List.getElem_cons_zero, List.setIfInBounds_toArray, List.set_cons_zero, List.set_cons_succ]
      refine S_take (i := 19) (v := .pointer (some ⟨g, 7, none⟩)) rfl rfl (by kernel_rfl) (by kernel_rfl) (by kernel_rfl) (fun _ _ _ h => h) (Or.inl ⟨by rfl, fun W' hw => by go_simp⟩) hS ?_
      simp only [Act.put, List.getElem_toArray, List.getElem_cons_succ, List.getElem_cons_zero, List.setIfInBounds_toArray, List.set_cons_zero, List.set_cons_succ]
      refine L_one (j := 20) (by kernel_rfl) rfl (by rfl) ?_
      simp only [Act.put, List.getElem_toArray, List.getElem_cons_succ, List.getElem_cons_zero, List.setIfInBounds_toArray, List.set_cons_zero, List.set_cons_succ]
      have KP := HB1.out _ hB
      refine wp_setq 33 (.tmp 25) (.tmp 22) rfl g 7 36 _ (.slice (some ⟨gm, 0, none⟩) n n) rfl rfl KP (by simp) (by kernel_rfl) rfl ?_
      intro w9 K9 o9 s9
      have HSS := Lib.hid (And.intro hB (And.intro hgm km))
      have hb9 : Below base W w9 := (hB.mono HK.out.2.2.1).trans (o9.below (fun x hx => by simp at hx; have := HK.out.2.2.2; omega) (Nat.le_trans HK.out.2.2.1 hB.size))
      have HK9 := Lib.hid (And.intro K9 (And.intro o9 (And.intro s9 hb9)))
      refine ⟨⟨_, K9, hb9⟩, ?_⟩
      simp only [Act.put, List.getElem_toArray, List.getElem_cons_succ, List.getElem_cons_zero, List.setIfInBounds_toArray, List.set_cons_zero, List.set_cons_succ]
      refine L_done (by kernel_rfl) ?_
      refine NoPanic.normal ?_
      clear hS hB hgm km K9 o9 s9 hb9 KP
      go_wp2
      refine bodyPost_end (results_none rfl _ _ _) rfl ?_
      have hg3 := HNN.out.2.2
      have hW9 : Only [g] W w9 := (Only.of_below HSS.out.1 [g]).trans HK9.out.2.1 (fun k h => .inl h)
      have hsl : (sizedM c.vw.row n).length = n := sizedM_len _ _
      have kc : Blk W14 g 36 c.cs := HK.out.1.of (HSS.out.1.block _ HK.out.1.lt)
      have hN9 := (HK.out.2.1.below HSS.out.1).stay kc HK9.out.2.1
      have km9 : Blk w9 gm 5 (u8s (sizedM c.vw.row n)).toArray := HSS.out.2.2.only HK9.out.2.1 (by have := HSS.out.2.1; simp; omega)
      have own9 : Own w9 base (.slice (some ⟨gm, 0, none⟩) n n) n (sizedM c.vw.row n) := Own.of_blk km9 hsl (Nat.le_trans HK.out.2.2.1 HSS.out.2.1) (by have := HNN.out.2.1; omega)
      refine ⟨rfl, hW9, { c with vw := { c.vw with row := sizedM c.vw.row n, M := some ⟨gm, 0, none⟩, cm := n } }, ?_, ⟨⟨by rw [hsl]; exact own9, fun _ _ h => (by cases h), msized_lt HK.out.2.1.vw.ok n, hN9.vw.par, hN9.vw.size, hN9.vw.ps, hN9.vw.ov, hN9.vw.pl⟩, hN9.sn, hN9.own, hN9.id, hN9.obj, hN9.seq, hN9.ow, hN9.it, hN9.tg⟩, ?_, rfl, rfl, rfl, fun h => ?_, fun _ => ⟨gm, rfl, HSS.out.2.1⟩⟩
      · unfold HA.cs
        simp only [hsl]
        exact HK9.out.1
      · unfold fitV fitM
        rw [HNN.out.1, if_pos (show c.v.mx.on = true from HON.out)]
        show HdV.mk _ _ _ _ _ ⟨c.vw.on, _, _⟩ _ _ _ _ = _
        rw [HON.out]
        rfl
      · rw [HON.out] at h; cases h
    · skip
      simp only [Act.put, List.getElem_toArray, List.getElem_cons_succ, List.getElem_cons_zero, List.setIfInBounds_toArray, List.set_cons_zero, List.set_cons_succ]
      refine wp_called (by go_simp) (HOB.out _ hB) ?_
      rintro e W13 ⟨rfl, b⟩
      have hB := hB.trans (b.mono hB.size)
      have hS : ∃ u, Blk W13 g 36 #[.int .i64 c.id, .int .i64 c.vw.size, .int .i64 c.obj, .int .i64 c.seq, .slice c.S c.sn.length c.cs', .bool c.vw.on, .bool c.vw.good, u, .string (strOf c.vw.par), .int .i64 c.vw.ps, .int .i64 c.vw.ov, .int .i64 c.ow, .int .i64 c.it, .int .i64 c.tg] ∧ Below base W W13 := ⟨_, HB1.out _ hB, hB.mono HK.out.2.2.1⟩
      clear b
      refine ⟨_, rfl, hS, ?_⟩
      simp only [Act.put, List.getElem_toArray, List.getElem_cons_succ, List.getElem_cons_zero, List.setIfInBounds_toArray, List.set_cons_zero, List.set_cons_succ]
      refine L_one (j := 4) (by kernel_rfl) rfl (by rfl) ?_
      simp only [Act.put, List.getElem_toArray, List.getElem_cons_succ, List.getElem_cons_zero, List.setIfInBounds_toArray, List.set_cons_zero, List.set_cons_succ]
      have k7 : (W13).cell? ⟨g, 7, none⟩ = some (.slice c.vw.M c.vw.row.length c.vw.cm) := (HB1.out _ hB).cell 7
      refine wp_ran (v := .slice c.vw.M c.vw.row.length c.vw.cm) (w' := W13) (by go_simp) ⟨hS, ?_⟩
      simp only [Act.put, List.getElem_toArray, List.getElem_cons_succ, List.getElem_cons_zero, List.setIfInBounds_toArray, List.set_cons_zero, List.set_cons_succ]
      clear k7
      refine L_one (j := 14) (by kernel_rfl) rfl (by rfl) ?_
      simp only [Act.put, List.getElem_toArray, List.getElem_cons_succ, List.getElem_cons_zero, List.setIfInBounds_toArray, List.set_cons_zero, List.set_cons_succ]
      refine wp_called (by go_simp) (HSZ.out _ hB) ?_
      rintro e W14 ⟨gm, rfl, hgm, km, b⟩
      have hB := hB.trans (b.mono hB.size)
      have hS : ∃ u, Blk W14 g 36 #[.int .i64 c.id, .int .i64 c.vw.size, .int .i64 c.obj, .int .i64 c.seq, .slice c.S c.sn.length c.cs', .bool c.vw.on, .bool c.vw.good, u, .string (strOf c.vw.par), .int .i64 c.vw.ps, .int .i64 c.vw.ov, .int .i64 c.ow, .int .i64 c.it, .int .i64 c.tg] ∧ Below base W W14 := ⟨_, HB1.out _ hB, hB.mono HK.out.2.2.1⟩
      clear b
      refine ⟨_, rfl, hS, ?_⟩
      simp only [Act.put, List.getElem_toArray, List.getElem_cons_succ, List.getElem_cons_zero, List.setIfInBounds_toArray, List.set_cons_zero, List.set_cons_succ]
      refine S_take (i := 15) (v := .tuple #[.slice (some ⟨gm, 0, none⟩) n n, .nilIface]) rfl rfl (by kernel_rfl) (by kernel_rfl) (by kernel_rfl) (fun _ _ _ h => h) (Or.inl ⟨by rfl, fun W' hw => by go_simp⟩) hS ?_
      simp only [Act.put, List.getElem_toArray, List.getElem_cons_succ, List.getElem_cons_zero, List.setIfInBounds_toArray, List.set_cons_zero, List.set_cons_succ]
      refine S_take (i := 16) (v := .slice (some ⟨gm, 0, none⟩) n n) rfl rfl (by kernel_rfl) (by kernel_rfl) (by kernel_rfl) (fun _ _ _ h => h) (Or.inl ⟨by rfl, fun W' hw => by go_simp⟩) hS ?_
      simp only [Act.put, List.getElem_toArray, List.getElem_cons_succ, List.getElem_cons_zero, List.setIfInBounds_toArray, List.set_cons_zero, List.set_cons_succ]
      refine S_take (i := 17) (v := .nilIface) rfl rfl (by kernel_rfl) (by kernel_rfl) (by kernel_rfl) (fun _ _ _ h => h) (Or.inl ⟨by rfl, fun W' hw => by go_simp⟩) hS ?_
      simp only [Act.put, List.getElem_toArray, List.getElem_cons_succ, List.getElem_cons_zero, List.setIfInBounds_toArray, List.set_cons_zero, List.set_cons_succ]
      refine S_take (i := 18) (v := .pointer (some ⟨g, 0, none⟩)) rfl rfl (by kernel_rfl) (by kernel_rfl) (by kernel_rfl) (fun _ _ _ h => h) (Or.inl ⟨by rfl, fun W' hw => by go_simp⟩) hS ?_
      simp only [Act.put, List.getElem_toArray, List.getElem_cons_succ, List.getElem_cons_zero, List.setIfInBounds_toArray, List.set_cons_zero, List.set_cons_succ]
      refine S_take (i := 19) (v := .pointer (some ⟨g, 7, none⟩)) rfl rfl (by kernel_rfl) (by kernel_rfl) (by kernel_rfl) (fun _ _ _ h => h) (Or.inl ⟨by rfl, fun W' hw => by go_simp⟩) hS ?_
      simp only [Act.put, List.getElem_toArray, List.getElem_cons_succ, List.getElem_cons_zero, List.setIfInBounds_toArray, List.set_cons_zero, List.set_cons_succ]
      refine L_one (j := 20) (by kernel_rfl) rfl (by rfl) ?_
      simp only [Act.put, List.getElem_toArray, List.getElem_cons_succ, List.getElem_cons_zero, List.setIfInBounds_toArray, List.set_cons_zero, List.set_cons_succ]
      have KP := HB1.out _ hB
      refine wp_setq 33 (.tmp 25) (.tmp 22) rfl g 7 36 _ (.slice (some ⟨gm, 0, none⟩) n n) rfl rfl KP (by simp) (by kernel_rfl) rfl ?_
      intro w9 K9 o9 s9
      have HSS := Lib.hid (And.intro hB (And.intro hgm km))
      have hb9 : Below base W w9 := (hB.mono HK.out.2.2.1).trans (o9.below (fun x hx => by simp at hx; have := HK.out.2.2.2; omega) (Nat.le_trans HK.out.2.2.1 hB.size))
      have HK9 := Lib.hid (And.intro K9 (And.intro o9 (And.intro s9 hb9)))
      refine ⟨⟨_, K9, hb9⟩, ?_⟩
      simp only [Act.put, List.getElem_toArray, List.getElem_cons_succ, List.getElem_cons_zero, List.setIfInBounds_toArray, List.set_cons_zero, List.set_cons_succ]
      refine L_done (by kernel_rfl) ?_
      refine NoPanic.normal ?_
      clear hS hB hgm km K9 o9 s9 hb9 KP
      go_wp2
      refine bodyPost_end (results_none rfl _ _ _) rfl ?_
      have hg3 := HNN.out.2.2
      have hW9 : Only [g] W w9 := (Only.of_below HSS.out.1 [g]).trans HK9.out.2.1 (fun k h => .inl h)
      have hsl : (sizedM c.vw.row n).length = n := sizedM_len _ _
      have kc : Blk W14 g 36 c.cs := HK.out.1.of (HSS.out.1.block _ HK.out.1.lt)
      have hN9 := (HK.out.2.1.below HSS.out.1).stay kc HK9.out.2.1
      have km9 : Blk w9 gm 5 (u8s (sizedM c.vw.row n)).toArray := HSS.out.2.2.only HK9.out.2.1 (by have := HSS.out.2.1; simp; omega)
      have own9 : Own w9 base (.slice (some ⟨gm, 0, none⟩) n n) n (sizedM c.vw.row n) := Own.of_blk km9 hsl (Nat.le_trans HK.out.2.2.1 HSS.out.2.1) (by have := HNN.out.2.1; omega)
      refine ⟨rfl, hW9, { c with vw := { c.vw with row := sizedM c.vw.row n, M := some ⟨gm, 0, none⟩, cm := n } }, ?_, ⟨⟨by rw [hsl]; exact own9, fun _ _ h => (by cases h), msized_lt HK.out.2.1.vw.ok n, hN9.vw.par, hN9.vw.size, hN9.vw.ps, hN9.vw.ov, hN9.vw.pl⟩, hN9.sn, hN9.own, hN9.id, hN9.obj, hN9.seq, hN9.ow, hN9.it, hN9.tg⟩, ?_, rfl, rfl, rfl, fun h => ?_, fun _ => ⟨gm, rfl, HSS.out.2.1⟩⟩
      · unfold HA.cs
        simp only [hsl]
        exact HK9.out.1
      · unfold fitV fitM
        rw [HNN.out.1, if_pos (show c.v.mx.on = true from HON.out)]
        show HdV.mk _ _ _ _ _ ⟨c.vw.on, _, _⟩ _ _ _ _ = _
        rw [HON.out]
        rfl
      · rw [HON.out] at h; cases h
end Go.Proofs.Ytiimanoloedbeaa

/-
  The document's Good of heads: what its tests tell, one by one.
-/
namespace Go.Proofs.Ytiimanoloedbeaa
open Go.RowKit Go.BigFrame
set_option linter.unusedSimpArgs false
set_option linter.unusedVariables false
theorem ltS_nil {c : List Nat} (h : namedB c = true) : ltS [] c = true := by
  have hl := (named_len h).1
  cases c with
  | nil => simp at hl
  | cons x r =>
    have e1 : (strOf []).toList = [] := by rw [ByteArray.toList_eq, strOf_list]; rfl
    have e2 : (strOf (x :: r)).toList = UInt8.ofNat x :: r.map UInt8.ofNat := by rw [ByteArray.toList_eq, strOf_list]; rfl
    unfold ltS
    rw [e1, e2]
    rfl
/-- the document's whole Good -/
theorem B_split (h : HdV) : h.B = (isObjB h.obj && (decide (0 ≤ h.id) && decide (0 ≤ h.seq) && decide (0 ≤ h.size) && decide (h.size ≤ 4096) && decide (h.sn.length ≤ 16) && decide (-1 ≤ h.ow) && decide (h.ow < 8) && decide (0 ≤ h.it) && decide (h.it ≤ 5)) && (h.mx.B (objsOf h.size h.obj) && h.lk.B h.size) && (snapsB h.obj h.seq 0 h.sn && decide (h.sn.map SnV.name).Nodup) && h.itB) := by
  have hit : h.itB = (decide (0 ≤ h.it) && decide (h.it ≤ 5) && h.itB) := by
    by_cases q : 0 ≤ h.it ∧ h.it ≤ 5
    · rw [decide_eq_true q.1, decide_eq_true q.2]; rfl
    · have : h.itB = false := by
        unfold HdV.itB
        rw [if_neg (by omega), if_neg (by omega), if_neg (by omega)]
      rw [this, Bool.and_false]
  have e : h.B = (decide (0 ≤ h.id) && decide (0 ≤ h.seq) && isObjB h.obj && (decide (0 ≤ h.size) && decide (h.size ≤ 4096) && h.mx.B (objsOf h.size h.obj) && h.lk.B h.size) && (decide (h.sn.length ≤ 16) && snapsB h.obj h.seq 0 h.sn && decide (h.sn.map SnV.name).Nodup) && decide (-1 ≤ h.ow) && decide (h.ow < 8) && h.itB) := rfl
  rw [e, hit]
  cases decide (0 ≤ h.id) <;> cases decide (0 ≤ h.seq) <;> cases isObjB h.obj <;> cases decide (0 ≤ h.size) <;> cases decide (h.size ≤ 4096) <;> simp [Bool.and_assoc, Bool.and_comm, Bool.and_left_comm]
end Go.Proofs.Ytiimanoloedbeaa

/-
  A head of another size; what Grow and MapTurn do with a copy. Conditions: the copy is the call's own, its sizes are good.
-/
namespace Go.Proofs.Ytiimanoloedbeaa
open Go.RowKit Go.BigFrame
set_option linter.unusedSimpArgs false
set_option linter.unusedVariables false
set_option maxRecDepth 100000
def resV (v : HdV) (n : Int) : HdV := fitV { v with size := n, lk := ⟨v.lk.par, v.lk.ps, min v.lk.ov n⟩ }
def ResTo (W : World) (base g : Nat) (c : HA) (n : Int) (e : Ending) (w' : World) : Prop :=
  e = .returned (.tuple #[]) ∧ Only [g] W w' ∧ ∃ c' : HA, Blk w' g 36 c'.cs ∧ c'.N w' base [] ∧ c'.v = resV c.v n
open Go in
theorem wpList_min {ops : Array Oper} {rest : List Oper} {w : World} {o : Oper} {a : Act} {Q : Exit → Act → World → Prop} (hgd : o.guard = none) (x y : Operand) (ho : o.op = .call { callee := .builtin .min, args := #[x, y], argTypes := #[3, 3] })
    (m n r : Int) (hx : a.eval x = .int .i64 m) (hy : a.eval y = .int .i64 n) (hr : min m n = r) (h : wpList Try.prog ops Q rest (a.put o.dst (.int .i64 r)) w) : wpList Try.prog ops Q (o :: rest) a w :=
  wpList_plain hgd fun _ hK => by
    have e : (if n < m then n else m) = r := by rw [← hr]; omega
    unfold Oper.wp execOp
    simp only [ho, resolve, invoke, builtin, Sem.run_bind, Sem.run_pure, Result.andThen_ok, List.map_toArray, List.map_cons, List.map_nil, hx, hy, run_min_int2, e]
    exact hK _ _ h
theorem wpList_setc {P : Program} {ops : Array Oper} {rest : List Oper} {o : Oper} {a : Act} {w : World} {Q : Exit → Act → World → Prop} (hgd : o.guard = none) (ty : TypeId) (x y : Operand) (ho : o.op = .store ty x y)
    (g i : Nat) (t : TypeId) (cs cs' : Array Value) (v : Value) (hx : a.eval x = .pointer (some ⟨g, i, none⟩)) (hy : a.eval y = v) (hB : Blk w g t cs) (hs : i < cs.size) (hi : (P.info? ty).map (·.size) = some 1) (h1 : v.oneCell' = true) (he : cs.setIfInBounds i v = cs')
    (h : ∀ w', Blk w' g t cs' → Only [g] w w' → w'.heap.size = w.heap.size → wpList P ops Q rest (a.put o.dst undef) w') : wpList P ops Q (o :: rest) a w :=
  wpList_setq hgd ty x y ho g i t cs v hx hy hB hs hi h1 (fun w' h1 h2 h3 => h w' (he ▸ h1) h2 h3)
set_option maxHeartbeats 16000000 in
theorem resize_any (W : World) (base g : Nat) (c : HA) (n : Int) (hb : base ≤ W.heap.size) (hg : base ≤ g) (k : Blk W g 36 c.cs) (hN : c.N W base []) (hgw : g < W.heap.size) (hn : 0 ≤ n ∧ n ≤ 4096) (ho : isObjB c.obj = true) :
    Calls Try.prog 125 #[.pointer (some ⟨g, 0, none⟩), .int .i64 n] W (ResTo W base g c n) := by
  obtain ⟨m, hm⟩ : ∃ m, m = min c.vw.ov n := ⟨_, rfl⟩
  have HI : Hid (I64 n ∧ I64 m) := Lib.hid (by have := hN.vw.ov; unfold I64 at *; omega)
  have HFT : Hid (∀ w' (k' : Blk w' g 36 #[.int .i64 c.id, .int .i64 n, .int .i64 c.obj, .int .i64 c.seq, .slice c.S c.sn.length c.cs', .bool c.vw.on, .bool c.vw.good, .slice c.vw.M c.vw.row.length c.vw.cm, .string (strOf c.vw.par), .int .i64 c.vw.ps, .int .i64 m, .int .i64 c.ow, .int .i64 c.it, .int .i64 c.tg]), c.N w' base [] → base ≤ w'.heap.size → g < w'.heap.size → Calls Try.prog 136 #[.pointer (some ⟨g, 0, none⟩)] w' (FitTo w' base g { c with vw := { c.vw with size := n, ov := m } })) := Lib.hid fun w' k' hN' hb' hg' =>
    fit_any w' base g { c with vw := { c.vw with size := n, ov := m } } hb' hg k' ⟨⟨hN'.vw.own, hN'.vw.far, hN'.vw.ok, hN'.vw.par, HI.out.1, hN'.vw.ps, HI.out.2, hN'.vw.pl⟩, hN'.sn, hN'.own, hN'.id, hN'.obj, hN'.seq, hN'.ow, hN'.it, hN'.tg⟩ hg' hn ho
  have HM : Hid (resV c.v n = fitV { c with vw := { c.vw with size := n, ov := m } : HA }.v) := Lib.hid (by rw [hm]; rfl)
  have HGW := Lib.hid hgw
  clear hn ho hgw
  have K0 : Blk W g 36 #[.int .i64 c.id, .int .i64 c.vw.size, .int .i64 c.obj, .int .i64 c.seq, .slice c.S c.sn.length c.cs', .bool c.vw.on, .bool c.vw.good, .slice c.vw.M c.vw.row.length c.vw.cm, .string (strOf c.vw.par), .int .i64 c.vw.ps, .int .i64 c.vw.ov, .int .i64 c.ow, .int .i64 c.it, .int .i64 c.tg] := k
  have HK := Lib.hid (And.intro k (And.intro hN (And.intro hb hg)))
  have HS : Hid (∀ n, Below base W (W.drewN n)) := Lib.hid fun n => ⟨rfl, rfl, rfl, Nat.le_refl _, fun _ _ => rfl⟩
  clear k hN hb hg
  have q10 : W.cell? ⟨g, 10, none⟩ = some (.int .i64 c.vw.ov) := K0.cell 10
  go_enter Try.func125, Try.ntmps125
  have HMN : Hid (min c.vw.ov n = m) := Lib.hid hm.symm
  clear hm
  have KP := K0
  clear K0
  have HKP := Lib.hid KP
  go_upto_region 0 with (fail)
  go_wp2_with (first
    | (have _h := HMN; refine wpList_min rfl (.tmp 11) (.tmp 12) rfl c.vw.ov n m rfl rfl HMN.out ?_; clear _h HMN)
    | (have _h := KP; refine wpList_setc rfl 3 (.tmp 15) (.tmp 6) rfl g 1 36 _ #[.int .i64 c.id, .int .i64 n, .int .i64 c.obj, .int .i64 c.seq, .slice c.S c.sn.length c.cs', .bool c.vw.on, .bool c.vw.good, .slice c.vw.M c.vw.row.length c.vw.cm, .string (strOf c.vw.par), .int .i64 c.vw.ps, .int .i64 c.vw.ov, .int .i64 c.ow, .int .i64 c.it, .int .i64 c.tg] (.int .i64 n) rfl rfl KP (by simp) (by kernel_rfl) rfl rfl ?_; clear _h KP; intro w8 K8 o8 s8; have HK8 := Lib.hid K8)
    | (have _h := K8; refine wpList_setc rfl 3 (.tmp 18) (.tmp 13) rfl g 10 36 _ #[.int .i64 c.id, .int .i64 n, .int .i64 c.obj, .int .i64 c.seq, .slice c.S c.sn.length c.cs', .bool c.vw.on, .bool c.vw.good, .slice c.vw.M c.vw.row.length c.vw.cm, .string (strOf c.vw.par), .int .i64 c.vw.ps, .int .i64 m, .int .i64 c.ow, .int .i64 c.it, .int .i64 c.tg] (.int .i64 m) rfl rfl K8 (by simp) (by kernel_rfl) rfl rfl ?_; clear _h K8; intro w9 K9 o9 s9))
  have n9 : c.N w9 base [] := (HK.out.2.1.stay HK.out.1 o8).stay HK8.out o9
  have HO := Lib.hid (And.intro (o8.trans o9 (fun k h => .inl h)) (And.intro s8 s9))
  have HF9 := Lib.hid (HFT.out w9 K9 n9 (by rw [s9, s8]; exact HK.out.2.2.1) (by rw [s9, s8]; exact HGW.out))
  clear n9 o8 o9 s8 s9 K9 HFT
  refine HF9.out.mono ?_
  rintro e w10 ⟨rfl, o10, c', k', n', v', -⟩
  have HE := Lib.hid (And.intro k' (And.intro n' (And.intro v' o10)))
  clear k' n' v' o10
  go_wp2
  refine bodyPost_end (results_none rfl _ _ _) rfl ?_
  exact ⟨rfl, HO.out.1.trans HE.out.2.2.2 (fun k h => .inl h), c', HE.out.1, HE.out.2.1, HE.out.2.2.1.trans HM.out.symm⟩
theorem good_sizes {v : HdV} (h : v.B = true) : (0 ≤ v.size ∧ v.size ≤ 4096) ∧ isObjB v.obj = true := by
  have hs := h
  rw [B_split] at hs
  simp only [Bool.and_eq_true, decide_eq_true_eq] at hs
  obtain ⟨⟨⟨⟨h1, h2⟩, _⟩, _⟩, _⟩ := hs
  obtain ⟨⟨⟨⟨⟨⟨⟨⟨a, b⟩, c⟩, d⟩, e⟩, f⟩, g⟩, i⟩, j⟩ := h2
  exact ⟨⟨c, d⟩, h1⟩
def GroE (v : HdV) (n : Int) (k : Nat) : Prop := (v.it ≠ 0 ∧ k = 9) ∨ (v.it = 0 ∧ (n < v.size ∨ 4096 < n) ∧ k = 1)
def GroO (v : HdV) (n : Int) (v' : HdV) : Prop := v.it = 0 ∧ v.size ≤ n ∧ n ≤ 4096 ∧ v' = resV v n
set_option maxHeartbeats 16000000 in
theorem gro1_any (W : World) (base g : Nat) (c : HA) (gc : Nat) (n : Int) (hb : base ≤ W.heap.size) (hg : base ≤ g) (k : Blk W g 36 c.cs) (hN : c.N W base []) (hB : c.v.B = true) (kc : W.cell? ⟨gc, 0, none⟩ = some (.int .i64 n)) :
    Calls Try.prog 124 #[.pointer (some ⟨g, 0, none⟩), .pointer (some ⟨gc, 0, none⟩)] W (DoesTo base [] g (fun k _ => GroE c.v n k) (fun v _ => GroO c.v n v) W) := by
  have HRS : Hid (0 ≤ n → n ≤ 4096 → ∀ q, Calls Try.prog 125 #[.pointer (some ⟨g, 0, none⟩), .int .i64 n] (W.drewN q) (ResTo W base g c n)) := Lib.hid fun h1 h2 q => (resize_any (W.drewN q) base g c n hb hg k (hN.drewN q) k.lt ⟨h1, h2⟩ (good_sizes hB).2).mono fun e w' ⟨r1, r2, r3⟩ => ⟨r1, ⟨r2.os, r2.tape, r2.output, r2.size, r2.block⟩, r3⟩
  have HSZ : Hid (0 ≤ c.vw.size) := Lib.hid (good_sizes hB).1.1
  have K0 : Blk W g 36 #[.int .i64 c.id, .int .i64 c.vw.size, .int .i64 c.obj, .int .i64 c.seq, .slice c.S c.sn.length c.cs', .bool c.vw.on, .bool c.vw.good, .slice c.vw.M c.vw.row.length c.vw.cm, .string (strOf c.vw.par), .int .i64 c.vw.ps, .int .i64 c.vw.ov, .int .i64 c.ow, .int .i64 c.it, .int .i64 c.tg] := k
  have HK := Lib.hid (And.intro k (And.intro hN (And.intro hb hg)))
  have HS : Hid (∀ n, Below base W (W.drewN n)) := Lib.hid fun n => ⟨rfl, rfl, rfl, Nat.le_refl _, fun _ _ => rfl⟩
  clear k hN hb hg hB
  have q1 : W.cell? ⟨g, 1, none⟩ = some (.int .i64 c.vw.size) := K0.cell 1
  have q12 : W.cell? ⟨g, 12, none⟩ = some (.int .i64 c.it) := K0.cell 12
  go_enter Try.func124, Try.ntmps124
  by_cases c0 : c.it = 0
  rotate_left
  · have d0 : (c.it != 0) = true := by simpa using c0
    have HC := Lib.hid c0
    clear c0
    go_wp2
    go_ret
    exact ⟨Frm.of (Below.refl _ _), .inl ⟨9, rfl, by omega, .inl ⟨HC.out, rfl⟩⟩⟩
  have d0 : (c.it != 0) = false := by simpa using c0
  have HC0 := Lib.hid c0
  clear c0
  by_cases c1 : n < c.vw.size
  · have d1 : decide (n < c.vw.size) = true := decide_eq_true c1
    have HC := Lib.hid c1
    clear c1
    go_upto_region 3 with (fail)
    go_quiet (fail)
    go_wp2
    go_ret
    exact ⟨Frm.of (HS.out nq), .inl ⟨1, rfl, by omega, .inr ⟨HC0.out, .inl HC.out, rfl⟩⟩⟩
  have d1 : decide (n < c.vw.size) = false := decide_eq_false c1
  by_cases c2 : 4096 < n
  · have d2 : decide (4096 < n) = true := decide_eq_true c2
    have HC := Lib.hid c2
    clear c1 c2
    go_upto_region 3 with (fail)
    go_quiet (fail)
    go_wp2
    go_ret
    exact ⟨Frm.of (HS.out nq), .inl ⟨1, rfl, by omega, .inr ⟨HC0.out, .inr HC.out, rfl⟩⟩⟩
  have d2 : decide (4096 < n) = false := decide_eq_false c2
  have HC := Lib.hid (And.intro c1 c2)
  clear c1 c2
  go_upto_region 3 with (fail)
  go_quiet (fail)
  go_wp2_with fail
  refine (HRS.out (by have := HC.out.1; have := HSZ.out; omega) (by have := HC.out.2; omega) nq).mono ?_
  rintro e w2 ⟨rfl, o2, c', k', n', v'⟩
  have HE := Lib.hid (And.intro k' (And.intro n' (And.intro v' o2)))
  clear k' n' v' o2
  go_wp2
  go_ret
  exact ⟨Frm.of (HE.out.2.2.2.below (fun x hx => by simp at hx; have := HK.out.2.2.2; omega) HK.out.2.2.1), .inr ⟨rfl, c', HE.out.1, HE.out.2.1, HC0.out, by have := HC.out.1; show c.vw.size ≤ n; omega, by have := HC.out.2; omega, HE.out.2.2.1⟩⟩
end Go.Proofs.Ytiimanoloedbeaa

/-
  What MapTurn does with a copy. Conditions: the copy is the call's own, its sizes are good.
-/
namespace Go.Proofs.Ytiimanoloedbeaa
open Go.RowKit Go.BigFrame
set_option linter.unusedSimpArgs false
set_option linter.unusedVariables false
set_option maxRecDepth 100000
def MtV (v : HdV) (on good : Bool) : HdV := { v with mx := if on then ⟨true, good, sizedM v.mx.row (objsOf v.size v.obj).toNat⟩ else ⟨false, good, []⟩ }
def MtE (on good : Bool) (k : Nat) : Prop := good = true ∧ on = false ∧ k = 1
def MtO (v : HdV) (on good : Bool) (v' : HdV) : Prop := (good = true → on = true) ∧ v' = MtV v on good
set_option maxHeartbeats 16000000 in
theorem mt1_any (W : World) (base g : Nat) (c : HA) (g1 g2 : Nat) (on good : Bool) (hb : base ≤ W.heap.size) (hg : base ≤ g) (k : Blk W g 36 c.cs) (hN : c.N W base []) (hB : c.v.B = true) (h1b : g1 < base) (h2b : g2 < base) (k1 : W.cell? ⟨g1, 0, none⟩ = some (.bool good)) (k2 : W.cell? ⟨g2, 0, none⟩ = some (.bool on)) :
    Calls Try.prog 135 #[.pointer (some ⟨g, 0, none⟩), .pointer (some ⟨g1, 0, none⟩), .pointer (some ⟨g2, 0, none⟩)] W (DoesTo base [] g (fun k _ => MtE on good k) (fun v _ => MtO c.v on good v) W) := by
  have HKI : Hid (∀ W', Below base W W' → W'.cell? ⟨g1, 0, none⟩ = some (.bool good)) := Lib.hid fun W' hW' => (hW'.cell h1b).trans k1
  have HKT : Hid (∀ W', Below base W W' → W'.cell? ⟨g2, 0, none⟩ = some (.bool on)) := Lib.hid fun W' hW' => (hW'.cell h2b).trans k2
  have HGS := Lib.hid (good_sizes hB)
  have HLT := Lib.hid k.lt
  have K0 : Blk W g 36 #[.int .i64 c.id, .int .i64 c.vw.size, .int .i64 c.obj, .int .i64 c.seq, .slice c.S c.sn.length c.cs', .bool c.vw.on, .bool c.vw.good, .slice c.vw.M c.vw.row.length c.vw.cm, .string (strOf c.vw.par), .int .i64 c.vw.ps, .int .i64 c.vw.ov, .int .i64 c.ow, .int .i64 c.it, .int .i64 c.tg] := k
  have HK := Lib.hid (And.intro k (And.intro hN (And.intro hb hg)))
  have HS : Hid (∀ n, Below base W (W.drewN n)) := Lib.hid fun n => ⟨rfl, rfl, rfl, Nat.le_refl _, fun _ _ => rfl⟩
  clear k hN hb hg hB h1b h2b
  go_enter Try.func135, Try.ntmps135
  by_cases hbad : good = true ∧ on = false
  · obtain ⟨rfl, rfl⟩ := hbad
    go_wp2
    go_ret
    exact ⟨Frm.of (Below.refl _ _), .inl ⟨1, rfl, by omega, ⟨rfl, rfl, rfl⟩⟩⟩
  cases good with
  | true =>
    obtain rfl : on = true := by cases on <;> simp_all
    clear hbad
    have KP : Blk W.drew g 36 #[.int .i64 c.id, .int .i64 c.vw.size, .int .i64 c.obj, .int .i64 c.seq, .slice c.S c.sn.length c.cs', .bool c.vw.on, .bool c.vw.good, .slice c.vw.M c.vw.row.length c.vw.cm, .string (strOf c.vw.par), .int .i64 c.vw.ps, .int .i64 c.vw.ov, .int .i64 c.ow, .int .i64 c.it, .int .i64 c.tg] := K0
    have hS : Below base W W.drew := ⟨rfl, rfl, rfl, Nat.le_refl _, fun _ _ => rfl⟩
    clear K0
    go_upto_region 3 with (fail)
    clear k1 k2
    refine any_beginL (fun W' => Below base W W') 99 (by kernel_rfl) ?_
    refine S_take (i := 0) (v := .pointer (some ⟨g, 0, none⟩)) rfl rfl (by kernel_rfl) (by kernel_rfl) (by kernel_rfl) (fun _ _ _ h => h) (Or.inl ⟨by rfl, fun W hw => by go_simp⟩) hS ?_
    simp only [Act.put, List.getElem_toArray, List.getElem_cons_succ, List.getElem_cons_zero, List.setIfInBounds_toArray, List.set_cons_zero, List.set_cons_succ]
    refine S_take (i := 1) (v := .pointer (some ⟨g, 0, none⟩)) rfl rfl (by kernel_rfl) (by kernel_rfl) (by kernel_rfl) (fun _ _ _ h => h) (Or.inl ⟨by rfl, fun W hw => by go_simp⟩) hS ?_
    simp only [Act.put, List.getElem_toArray, List.getElem_cons_succ, List.getElem_cons_zero, List.setIfInBounds_toArray, List.set_cons_zero, List.set_cons_succ]
    refine S_take (i := 2) (v := .bool true) rfl rfl (by kernel_rfl) (by kernel_rfl) (by kernel_rfl) (fun _ _ _ h => h) (Or.inl ⟨by rfl, fun W hw => by have k1 := HKT.out W hw; go_simp⟩) hS ?_
    simp only [Act.put, List.getElem_toArray, List.getElem_cons_succ, List.getElem_cons_zero, List.setIfInBounds_toArray, List.set_cons_zero, List.set_cons_succ]
    refine S_take (i := 3) (v := .bool true) rfl rfl (by kernel_rfl) (by kernel_rfl) (by kernel_rfl) (fun _ _ _ h => h) (Or.inl ⟨by rfl, fun W hw => by have k1 := HKI.out W hw; go_simp⟩) hS ?_
    simp only [Act.put, List.getElem_toArray, List.getElem_cons_succ, List.getElem_cons_zero, List.setIfInBounds_toArray, List.set_cons_zero, List.set_cons_succ]
    refine S_take (i := 4) (v := .pointer (some ⟨g, 0, none⟩)) rfl rfl (by kernel_rfl) (by kernel_rfl) (by kernel_rfl) (fun _ _ _ h => h) (Or.inl ⟨by rfl, fun W hw => by go_simp⟩) hS ?_
    simp only [Act.put, List.getElem_toArray, List.getElem_cons_succ, List.getElem_cons_zero, List.setIfInBounds_toArray, List.set_cons_zero, List.set_cons_succ]
    refine S_take (i := 5) (v := .pointer (some ⟨g, 5, none⟩)) rfl rfl (by kernel_rfl) (by kernel_rfl) (by kernel_rfl) (fun _ _ _ h => h) (Or.inl ⟨by rfl, fun W hw => by go_simp⟩) hS ?_
    simp only [Act.put, List.getElem_toArray, List.getElem_cons_succ, List.getElem_cons_zero, List.setIfInBounds_toArray, List.set_cons_zero, List.set_cons_succ]
    refine L_one (j := 6) (by kernel_rfl) rfl (by rfl) ?_
    simp only [Act.put, List.getElem_toArray, List.getElem_cons_succ, List.getElem_cons_zero, List.setIfInBounds_toArray, List.set_cons_zero, List.set_cons_succ]
    refine wp_setq 4 (.tmp 16) (.tmp 13) rfl g 5 36 _ (.bool true) rfl rfl KP (by simp) (by kernel_rfl) rfl ?_
    intro w8 K8 o8 s8
    have hS := hS.trans (o8.below (fun x hx => by simp at hx; have := HK.out.2.2.2; omega) (Nat.le_trans HK.out.2.2.1 hS.size))
    refine ⟨hS, ?_⟩
    simp only [Act.put, List.getElem_toArray, List.getElem_cons_succ, List.getElem_cons_zero, List.setIfInBounds_toArray, List.set_cons_zero, List.set_cons_succ]
    refine S_take (i := 7) (v := .pointer (some ⟨g, 0, none⟩)) rfl rfl (by kernel_rfl) (by kernel_rfl) (by kernel_rfl) (fun _ _ _ h => h) (Or.inl ⟨by rfl, fun W hw => by go_simp⟩) hS ?_
    simp only [Act.put, List.getElem_toArray, List.getElem_cons_succ, List.getElem_cons_zero, List.setIfInBounds_toArray, List.set_cons_zero, List.set_cons_succ]
    refine S_take (i := 8) (v := .pointer (some ⟨g, 6, none⟩)) rfl rfl (by kernel_rfl) (by kernel_rfl) (by kernel_rfl) (fun _ _ _ h => h) (Or.inl ⟨by rfl, fun W hw => by go_simp⟩) hS ?_
    simp only [Act.put, List.getElem_toArray, List.getElem_cons_succ, List.getElem_cons_zero, List.setIfInBounds_toArray, List.set_cons_zero, List.set_cons_succ]
    refine L_one (j := 9) (by kernel_rfl) rfl (by rfl) ?_
    simp only [Act.put, List.getElem_toArray, List.getElem_cons_succ, List.getElem_cons_zero, List.setIfInBounds_toArray, List.set_cons_zero, List.set_cons_succ]
    refine wp_setq 4 (.tmp 18) (.tmp 14) rfl g 6 36 _ (.bool true) rfl rfl K8 (by simp) (by kernel_rfl) rfl ?_
    intro w9 K9 o9 s9
    have hS := hS.trans (o9.below (fun x hx => by simp at hx; have := HK.out.2.2.2; omega) (Nat.le_trans HK.out.2.2.1 hS.size))
    refine ⟨hS, ?_⟩
    simp only [Act.put, List.getElem_toArray, List.getElem_cons_succ, List.getElem_cons_zero, List.setIfInBounds_toArray, List.set_cons_zero, List.set_cons_succ]
    refine L_done (by kernel_rfl) ?_
    refine NoPanic.normal ?_
    have K9' : Blk w9 g 36 #[.int .i64 c.id, .int .i64 c.vw.size, .int .i64 c.obj, .int .i64 c.seq, .slice c.S c.sn.length c.cs', .bool true, .bool true, .slice c.vw.M c.vw.row.length c.vw.cm, .string (strOf c.vw.par), .int .i64 c.vw.ps, .int .i64 c.vw.ov, .int .i64 c.ow, .int .i64 c.it, .int .i64 c.tg] := K9
    have o89 : Only [g] W w9 := (fun h => ⟨h.os, h.tape, h.output, h.size, h.block⟩ : Only [g] W.drew w9 → Only [g] W w9) (o8.trans o9 (fun k h => .inl h))
    have kt9 : w9.cell? ⟨g2, 0, none⟩ = some (.bool true) := HKT.out w9 hS
    have n9 : c.N w9 base [] := HK.out.2.1.stay HK.out.1 o89
    have hz9 : w9.heap.size = W.heap.size := s9.trans s8
    have HX := Lib.hid (And.intro o89 (And.intro n9 hz9))
    clear o8 o9 s8 s9 K8 K9 KP hS n9 o89 hz9
    have HFT := Lib.hid (fit_any w9 base g { c with vw := { c.vw with on := true, good := true } } (by rw [HX.out.2.2]; exact HK.out.2.2.1) HK.out.2.2.2 K9' ⟨⟨HX.out.2.1.vw.own, HX.out.2.1.vw.far, HX.out.2.1.vw.ok, HX.out.2.1.vw.par, HX.out.2.1.vw.size, HX.out.2.1.vw.ps, HX.out.2.1.vw.ov, HX.out.2.1.vw.pl⟩, HX.out.2.1.sn, HX.out.2.1.own, HX.out.2.1.id, HX.out.2.1.obj, HX.out.2.1.seq, HX.out.2.1.ow, HX.out.2.1.it, HX.out.2.1.tg⟩ (by rw [HX.out.2.2]; exact HLT.out) HGS.out.1 HGS.out.2)
    clear K9'
    go_wp2_with fail
    refine HFT.out.mono ?_
    rintro e w12 ⟨rfl, o12, c', k', n', v', -⟩
    have HE := Lib.hid (And.intro k' (And.intro n' (And.intro v' (HX.out.1.trans o12 (fun k h => .inl h)))))
    clear k' n' v' o12 HFT
    go_wp2
    go_ret
    exact ⟨Frm.of (HE.out.2.2.2.below (fun x hx => by simp at hx; have := HK.out.2.2.2; omega) HK.out.2.2.1), .inr ⟨rfl, c', HE.out.1, HE.out.2.1, by simp, HE.out.2.2.1.trans (by rfl)⟩⟩
  | false =>
    clear hbad
    cases on with
    | true =>
      have KP : Blk W.drew g 36 #[.int .i64 c.id, .int .i64 c.vw.size, .int .i64 c.obj, .int .i64 c.seq, .slice c.S c.sn.length c.cs', .bool c.vw.on, .bool c.vw.good, .slice c.vw.M c.vw.row.length c.vw.cm, .string (strOf c.vw.par), .int .i64 c.vw.ps, .int .i64 c.vw.ov, .int .i64 c.ow, .int .i64 c.it, .int .i64 c.tg] := K0
      have hS : Below base W W.drew := ⟨rfl, rfl, rfl, Nat.le_refl _, fun _ _ => rfl⟩
      clear K0
      go_upto_region 3 with (fail)
      clear k1 k2
      refine any_beginL (fun W' => Below base W W') 99 (by kernel_rfl) ?_
      refine S_take (i := 0) (v := .pointer (some ⟨g, 0, none⟩)) rfl rfl (by kernel_rfl) (by kernel_rfl) (by kernel_rfl) (fun _ _ _ h => h) (Or.inl ⟨by rfl, fun W hw => by go_simp⟩) hS ?_
      simp only [Act.put, List.getElem_toArray, List.getElem_cons_succ, List.getElem_cons_zero, List.setIfInBounds_toArray, List.set_cons_zero, List.set_cons_succ]
      refine S_take (i := 1) (v := .pointer (some ⟨g, 0, none⟩)) rfl rfl (by kernel_rfl) (by kernel_rfl) (by kernel_rfl) (fun _ _ _ h => h) (Or.inl ⟨by rfl, fun W hw => by go_simp⟩) hS ?_
      simp only [Act.put, List.getElem_toArray, List.getElem_cons_succ, List.getElem_cons_zero, List.setIfInBounds_toArray, List.set_cons_zero, List.set_cons_succ]
      refine S_take (i := 2) (v := .bool true) rfl rfl (by kernel_rfl) (by kernel_rfl) (by kernel_rfl) (fun _ _ _ h => h) (Or.inl ⟨by rfl, fun W hw => by have k1 := HKT.out W hw; go_simp⟩) hS ?_
      simp only [Act.put, List.getElem_toArray, List.getElem_cons_succ, List.getElem_cons_zero, List.setIfInBounds_toArray, List.set_cons_zero, List.set_cons_succ]
      refine S_take (i := 3) (v := .bool false) rfl rfl (by kernel_rfl) (by kernel_rfl) (by kernel_rfl) (fun _ _ _ h => h) (Or.inl ⟨by rfl, fun W hw => by have k1 := HKI.out W hw; go_simp⟩) hS ?_
      simp only [Act.put, List.getElem_toArray, List.getElem_cons_succ, List.getElem_cons_zero, List.setIfInBounds_toArray, List.set_cons_zero, List.set_cons_succ]
      refine S_take (i := 4) (v := .pointer (some ⟨g, 0, none⟩)) rfl rfl (by kernel_rfl) (by kernel_rfl) (by kernel_rfl) (fun _ _ _ h => h) (Or.inl ⟨by rfl, fun W hw => by go_simp⟩) hS ?_
      simp only [Act.put, List.getElem_toArray, List.getElem_cons_succ, List.getElem_cons_zero, List.setIfInBounds_toArray, List.set_cons_zero, List.set_cons_succ]
      refine S_take (i := 5) (v := .pointer (some ⟨g, 5, none⟩)) rfl rfl (by kernel_rfl) (by kernel_rfl) (by kernel_rfl) (fun _ _ _ h => h) (Or.inl ⟨by rfl, fun W hw => by go_simp⟩) hS ?_
      simp only [Act.put, List.getElem_toArray, List.getElem_cons_succ, List.getElem_cons_zero, List.setIfInBounds_toArray, List.set_cons_zero, List.set_cons_succ]
      refine L_one (j := 6) (by kernel_rfl) rfl (by rfl) ?_
      simp only [Act.put, List.getElem_toArray, List.getElem_cons_succ, List.getElem_cons_zero, List.setIfInBounds_toArray, List.set_cons_zero, List.set_cons_succ]
      refine wp_setq 4 (.tmp 16) (.tmp 13) rfl g 5 36 _ (.bool true) rfl rfl KP (by simp) (by kernel_rfl) rfl ?_
      intro w8 K8 o8 s8
      have hS := hS.trans (o8.below (fun x hx => by simp at hx; have := HK.out.2.2.2; omega) (Nat.le_trans HK.out.2.2.1 hS.size))
      refine ⟨hS, ?_⟩
      simp only [Act.put, List.getElem_toArray, List.getElem_cons_succ, List.getElem_cons_zero, List.setIfInBounds_toArray, List.set_cons_zero, List.set_cons_succ]
      refine S_take (i := 7) (v := .pointer (some ⟨g, 0, none⟩)) rfl rfl (by kernel_rfl) (by kernel_rfl) (by kernel_rfl) (fun _ _ _ h => h) (Or.inl ⟨by rfl, fun W hw => by go_simp⟩) hS ?_
      simp only [Act.put, List.getElem_toArray, List.getElem_cons_succ, List.getElem_cons_zero, List.setIfInBounds_toArray, List.set_cons_zero, List.set_cons_succ]
      refine S_take (i := 8) (v := .pointer (some ⟨g, 6, none⟩)) rfl rfl (by kernel_rfl) (by kernel_rfl) (by kernel_rfl) (fun _ _ _ h => h) (Or.inl ⟨by rfl, fun W hw => by go_simp⟩) hS ?_
      simp only [Act.put, List.getElem_toArray, List.getElem_cons_succ, List.getElem_cons_zero, List.setIfInBounds_toArray, List.set_cons_zero, List.set_cons_succ]
      refine L_one (j := 9) (by kernel_rfl) rfl (by rfl) ?_
      simp only [Act.put, List.getElem_toArray, List.getElem_cons_succ, List.getElem_cons_zero, List.setIfInBounds_toArray, List.set_cons_zero, List.set_cons_succ]
      refine wp_setq 4 (.tmp 18) (.tmp 14) rfl g 6 36 _ (.bool false) rfl rfl K8 (by simp) (by kernel_rfl) rfl ?_
      intro w9 K9 o9 s9
      have hS := hS.trans (o9.below (fun x hx => by simp at hx; have := HK.out.2.2.2; omega) (Nat.le_trans HK.out.2.2.1 hS.size))
      refine ⟨hS, ?_⟩
      simp only [Act.put, List.getElem_toArray, List.getElem_cons_succ, List.getElem_cons_zero, List.setIfInBounds_toArray, List.set_cons_zero, List.set_cons_succ]
      refine L_done (by kernel_rfl) ?_
      refine NoPanic.normal ?_
      have K9' : Blk w9 g 36 #[.int .i64 c.id, .int .i64 c.vw.size, .int .i64 c.obj, .int .i64 c.seq, .slice c.S c.sn.length c.cs', .bool true, .bool false, .slice c.vw.M c.vw.row.length c.vw.cm, .string (strOf c.vw.par), .int .i64 c.vw.ps, .int .i64 c.vw.ov, .int .i64 c.ow, .int .i64 c.it, .int .i64 c.tg] := K9
      have o89 : Only [g] W w9 := (fun h => ⟨h.os, h.tape, h.output, h.size, h.block⟩ : Only [g] W.drew w9 → Only [g] W w9) (o8.trans o9 (fun k h => .inl h))
      have kt9 : w9.cell? ⟨g2, 0, none⟩ = some (.bool true) := HKT.out w9 hS
      have n9 : c.N w9 base [] := HK.out.2.1.stay HK.out.1 o89
      have hz9 : w9.heap.size = W.heap.size := s9.trans s8
      have HX := Lib.hid (And.intro o89 (And.intro n9 hz9))
      clear o8 o9 s8 s9 K8 K9 KP hS n9 o89 hz9
      have HFT := Lib.hid (fit_any w9 base g { c with vw := { c.vw with on := true, good := false } } (by rw [HX.out.2.2]; exact HK.out.2.2.1) HK.out.2.2.2 K9' ⟨⟨HX.out.2.1.vw.own, HX.out.2.1.vw.far, HX.out.2.1.vw.ok, HX.out.2.1.vw.par, HX.out.2.1.vw.size, HX.out.2.1.vw.ps, HX.out.2.1.vw.ov, HX.out.2.1.vw.pl⟩, HX.out.2.1.sn, HX.out.2.1.own, HX.out.2.1.id, HX.out.2.1.obj, HX.out.2.1.seq, HX.out.2.1.ow, HX.out.2.1.it, HX.out.2.1.tg⟩ (by rw [HX.out.2.2]; exact HLT.out) HGS.out.1 HGS.out.2)
      clear K9'
      go_wp2_with fail
      refine HFT.out.mono ?_
      rintro e w12 ⟨rfl, o12, c', k', n', v', -⟩
      have HE := Lib.hid (And.intro k' (And.intro n' (And.intro v' (HX.out.1.trans o12 (fun k h => .inl h)))))
      clear k' n' v' o12 HFT
      go_wp2
      go_ret
      exact ⟨Frm.of (HE.out.2.2.2.below (fun x hx => by simp at hx; have := HK.out.2.2.2; omega) HK.out.2.2.1), .inr ⟨rfl, c', HE.out.1, HE.out.2.1, by simp, HE.out.2.2.1.trans (by rfl)⟩⟩
    | false =>
      have KP : Blk W.drew g 36 #[.int .i64 c.id, .int .i64 c.vw.size, .int .i64 c.obj, .int .i64 c.seq, .slice c.S c.sn.length c.cs', .bool c.vw.on, .bool c.vw.good, .slice c.vw.M c.vw.row.length c.vw.cm, .string (strOf c.vw.par), .int .i64 c.vw.ps, .int .i64 c.vw.ov, .int .i64 c.ow, .int .i64 c.it, .int .i64 c.tg] := K0
      have hS : Below base W W.drew := ⟨rfl, rfl, rfl, Nat.le_refl _, fun _ _ => rfl⟩
      clear K0
      go_upto_region 3 with (fail)
      clear k1 k2
      refine any_beginL (fun W' => Below base W W') 99 (by kernel_rfl) ?_
      refine S_take (i := 0) (v := .pointer (some ⟨g, 0, none⟩)) rfl rfl (by kernel_rfl) (by kernel_rfl) (by kernel_rfl) (fun _ _ _ h => h) (Or.inl ⟨by rfl, fun W hw => by go_simp⟩) hS ?_
      simp only [Act.put, List.getElem_toArray, List.getElem_cons_succ, List.getElem_cons_zero, List.setIfInBounds_toArray, List.set_cons_zero, List.set_cons_succ]
      refine S_take (i := 1) (v := .pointer (some ⟨g, 0, none⟩)) rfl rfl (by kernel_rfl) (by kernel_rfl) (by kernel_rfl) (fun _ _ _ h => h) (Or.inl ⟨by rfl, fun W hw => by go_simp⟩) hS ?_
      simp only [Act.put, List.getElem_toArray, List.getElem_cons_succ, List.getElem_cons_zero, List.setIfInBounds_toArray, List.set_cons_zero, List.set_cons_succ]
      refine S_take (i := 2) (v := .bool false) rfl rfl (by kernel_rfl) (by kernel_rfl) (by kernel_rfl) (fun _ _ _ h => h) (Or.inl ⟨by rfl, fun W hw => by have k1 := HKT.out W hw; go_simp⟩) hS ?_
      simp only [Act.put, List.getElem_toArray, List.getElem_cons_succ, List.getElem_cons_zero, List.setIfInBounds_toArray, List.set_cons_zero, List.set_cons_succ]
      refine S_take (i := 3) (v := .bool false) rfl rfl (by kernel_rfl) (by kernel_rfl) (by kernel_rfl) (fun _ _ _ h => h) (Or.inl ⟨by rfl, fun W hw => by have k1 := HKI.out W hw; go_simp⟩) hS ?_
      simp only [Act.put, List.getElem_toArray, List.getElem_cons_succ, List.getElem_cons_zero, List.setIfInBounds_toArray, List.set_cons_zero, List.set_cons_succ]
      refine S_take (i := 4) (v := .pointer (some ⟨g, 0, none⟩)) rfl rfl (by kernel_rfl) (by kernel_rfl) (by kernel_rfl) (fun _ _ _ h => h) (Or.inl ⟨by rfl, fun W hw => by go_simp⟩) hS ?_
      simp only [Act.put, List.getElem_toArray, List.getElem_cons_succ, List.getElem_cons_zero, List.setIfInBounds_toArray, List.set_cons_zero, List.set_cons_succ]
      refine S_take (i := 5) (v := .pointer (some ⟨g, 5, none⟩)) rfl rfl (by kernel_rfl) (by kernel_rfl) (by kernel_rfl) (fun _ _ _ h => h) (Or.inl ⟨by rfl, fun W hw => by go_simp⟩) hS ?_
      simp only [Act.put, List.getElem_toArray, List.getElem_cons_succ, List.getElem_cons_zero, List.setIfInBounds_toArray, List.set_cons_zero, List.set_cons_succ]
      refine L_one (j := 6) (by kernel_rfl) rfl (by rfl) ?_
      simp only [Act.put, List.getElem_toArray, List.getElem_cons_succ, List.getElem_cons_zero, List.setIfInBounds_toArray, List.set_cons_zero, List.set_cons_succ]
      refine wp_setq 4 (.tmp 16) (.tmp 13) rfl g 5 36 _ (.bool false) rfl rfl KP (by simp) (by kernel_rfl) rfl ?_
      intro w8 K8 o8 s8
      have hS := hS.trans (o8.below (fun x hx => by simp at hx; have := HK.out.2.2.2; omega) (Nat.le_trans HK.out.2.2.1 hS.size))
      refine ⟨hS, ?_⟩
      simp only [Act.put, List.getElem_toArray, List.getElem_cons_succ, List.getElem_cons_zero, List.setIfInBounds_toArray, List.set_cons_zero, List.set_cons_succ]
      refine S_take (i := 7) (v := .pointer (some ⟨g, 0, none⟩)) rfl rfl (by kernel_rfl) (by kernel_rfl) (by kernel_rfl) (fun _ _ _ h => h) (Or.inl ⟨by rfl, fun W hw => by go_simp⟩) hS ?_
      simp only [Act.put, List.getElem_toArray, List.getElem_cons_succ, List.getElem_cons_zero, List.setIfInBounds_toArray, List.set_cons_zero, List.set_cons_succ]
      refine S_take (i := 8) (v := .pointer (some ⟨g, 6, none⟩)) rfl rfl (by kernel_rfl) (by kernel_rfl) (by kernel_rfl) (fun _ _ _ h => h) (Or.inl ⟨by rfl, fun W hw => by go_simp⟩) hS ?_
      simp only [Act.put, List.getElem_toArray, List.getElem_cons_succ, List.getElem_cons_zero, List.setIfInBounds_toArray, List.set_cons_zero, List.set_cons_succ]
      refine L_one (j := 9) (by kernel_rfl) rfl (by rfl) ?_
      simp only [Act.put, List.getElem_toArray, List.getElem_cons_succ, List.getElem_cons_zero, List.setIfInBounds_toArray, List.set_cons_zero, List.set_cons_succ]
      refine wp_setq 4 (.tmp 18) (.tmp 14) rfl g 6 36 _ (.bool false) rfl rfl K8 (by simp) (by kernel_rfl) rfl ?_
      intro w9 K9 o9 s9
      have hS := hS.trans (o9.below (fun x hx => by simp at hx; have := HK.out.2.2.2; omega) (Nat.le_trans HK.out.2.2.1 hS.size))
      refine ⟨hS, ?_⟩
      simp only [Act.put, List.getElem_toArray, List.getElem_cons_succ, List.getElem_cons_zero, List.setIfInBounds_toArray, List.set_cons_zero, List.set_cons_succ]
      refine L_done (by kernel_rfl) ?_
      refine NoPanic.normal ?_
      have K9' : Blk w9 g 36 #[.int .i64 c.id, .int .i64 c.vw.size, .int .i64 c.obj, .int .i64 c.seq, .slice c.S c.sn.length c.cs', .bool false, .bool false, .slice c.vw.M c.vw.row.length c.vw.cm, .string (strOf c.vw.par), .int .i64 c.vw.ps, .int .i64 c.vw.ov, .int .i64 c.ow, .int .i64 c.it, .int .i64 c.tg] := K9
      have o89 : Only [g] W w9 := (fun h => ⟨h.os, h.tape, h.output, h.size, h.block⟩ : Only [g] W.drew w9 → Only [g] W w9) (o8.trans o9 (fun k h => .inl h))
      have kt9 : w9.cell? ⟨g2, 0, none⟩ = some (.bool false) := HKT.out w9 hS
      have n9 : c.N w9 base [] := HK.out.2.1.stay HK.out.1 o89
      have hz9 : w9.heap.size = W.heap.size := s9.trans s8
      have HX := Lib.hid (And.intro o89 (And.intro n9 hz9))
      clear o8 o9 s8 s9 K8 K9 KP hS n9 o89 hz9
      go_wp2_with (have _h := K9'; refine wpList_setc rfl 33 (.tmp 23) (.const (.slice none 0 0)) rfl g 7 36 _ #[.int .i64 c.id, .int .i64 c.vw.size, .int .i64 c.obj, .int .i64 c.seq, .slice c.S c.sn.length c.cs', .bool false, .bool false, .slice none 0 0, .string (strOf c.vw.par), .int .i64 c.vw.ps, .int .i64 c.vw.ov, .int .i64 c.ow, .int .i64 c.it, .int .i64 c.tg] (.slice none 0 0) rfl rfl K9' (by simp) (by kernel_rfl) rfl rfl ?_; clear _h K9'; intro w10 K10 o10 s10)
      have o10' : Only [g] W w10 := HX.out.1.trans o10 (fun k h => .inl h)
      have n10 : c.N w10 base [] := HK.out.2.1.stay HK.out.1 o10'
      have hz10 : w10.heap.size = W.heap.size := s10.trans HX.out.2.2
      have HY := Lib.hid (And.intro o10' (And.intro n10 hz10))
      have HFT := Lib.hid (fit_any w10 base g { c with vw := { c.vw with on := false, good := false, row := [], M := none, cm := 0 } } (by rw [hz10]; exact HK.out.2.2.1) HK.out.2.2.2 K10 ⟨⟨Own.nil _ _, fun _ _ h => (by cases h), fun b hb => (by cases hb), HY.out.2.1.vw.par, HY.out.2.1.vw.size, HY.out.2.1.vw.ps, HY.out.2.1.vw.ov, HY.out.2.1.vw.pl⟩, HY.out.2.1.sn, HY.out.2.1.own, HY.out.2.1.id, HY.out.2.1.obj, HY.out.2.1.seq, HY.out.2.1.ow, HY.out.2.1.it, HY.out.2.1.tg⟩ (by rw [hz10]; exact HLT.out) HGS.out.1 HGS.out.2)
      clear K10 o10 s10 o10' n10 hz10
      refine HFT.out.mono ?_
      rintro e w12 ⟨rfl, o12, c', k', n', v', -⟩
      have HE := Lib.hid (And.intro k' (And.intro n' (And.intro v' (HY.out.1.trans o12 (fun k h => .inl h)))))
      clear k' n' v' o12 HFT
      go_wp2
      go_ret
      exact ⟨Frm.of (HE.out.2.2.2.below (fun x hx => by simp at hx; have := HK.out.2.2.2; omega) HK.out.2.2.1), .inr ⟨rfl, c', HE.out.1, HE.out.2.1, by simp, HE.out.2.2.1.trans (by rfl)⟩⟩
end Go.Proofs.Ytiimanoloedbeaa

/-
  Acquire, Release, Grow, Begin, MapTurn: what they answer. Conditions: the head reads as it is said to, and is small.
-/
namespace Go.Proofs.Ytiimanoloedbeaa
open Go.RowKit Go.BigFrame
set_option linter.unusedSimpArgs false
set_option linter.unusedVariables false
set_option maxRecDepth 100000
/-- what a call of package rules answers -/
def AnsTo (w : World) (v : HdV) (PE : Nat → Prop) (PO : HdV → Prop) (e : Ending) (w' : World) : Prop :=
  Below w.heap.size w w' ∧ ((v.B = false ∧ e = .returned (.tuple #[.agg Z14, errV 2])) ∨ (v.B = true ∧ ∃ k, e = .returned (.tuple #[.agg Z14, errV k]) ∧ k ≠ 0 ∧ PE k) ∨ (v.B = true ∧ ∃ q : HA, e = .returned (.tuple #[.agg q.cs, .nilIface]) ∧ q.N w' w.heap.size [] ∧ PO q.v))
set_option maxHeartbeats 16000000 in
theorem acquire_any (h : HA) (w : World) (n : Int) (hn : I64 n) (hR : h.R SA.cells w) (hS : h.Sm) : Calls Try.prog 67 #[.agg h.cs, .int .i64 n] w (AnsTo w h.v (fun k => AcqE h.v n k) (fun v => AcqO h.v n v)) := by
  obtain ⟨W1, hW1⟩ : ∃ W, W = ((w.alloc (.cells #[.int .i64 h.id, .int .i64 h.vw.size, .int .i64 h.obj, .int .i64 h.seq, .slice h.S h.sn.length h.cs', .bool h.vw.on, .bool h.vw.good, .slice h.vw.M h.vw.row.length h.vw.cm, .string (strOf h.vw.par), .int .i64 h.vw.ps, .int .i64 h.vw.ov, .int .i64 h.ow, .int .i64 h.it, .int .i64 h.tg] 36)).alloc (.cells #[.int .i64 n] 3)).alloc (.cells #[.int .i64 0, .int .i64 0, .int .i64 0, .int .i64 0, .slice none 0 0, .bool false, .bool false, .slice none 0 0, .string ⟨#[]⟩, .int .i64 0, .int .i64 0, .int .i64 0, .int .i64 0, .int .i64 0] 36) := ⟨_, rfl⟩
  have h1 : Below w.heap.size w W1 ∧ W1.heap.size = w.heap.size + 3 ∧ Blk W1 w.heap.size 36 #[.int .i64 h.id, .int .i64 h.vw.size, .int .i64 h.obj, .int .i64 h.seq, .slice h.S h.sn.length h.cs', .bool h.vw.on, .bool h.vw.good, .slice h.vw.M h.vw.row.length h.vw.cm, .string (strOf h.vw.par), .int .i64 h.vw.ps, .int .i64 h.vw.ov, .int .i64 h.ow, .int .i64 h.it, .int .i64 h.tg] ∧ Blk W1 (w.heap.size + 2) 36 #[.int .i64 0, .int .i64 0, .int .i64 0, .int .i64 0, .slice none 0 0, .bool false, .bool false, .slice none 0 0, .string ⟨#[]⟩, .int .i64 0, .int .i64 0, .int .i64 0, .int .i64 0, .int .i64 0] := by
    rw [hW1]
    refine ⟨(((below_alloc w _).alloc (by simp <;> omega) _).alloc (by simp <;> omega) _), by simp, (((Blk.new w _ _).alloc _).alloc _), ?_⟩
    have := Blk.new ((w.alloc (.cells #[.int .i64 h.id, .int .i64 h.vw.size, .int .i64 h.obj, .int .i64 h.seq, .slice h.S h.sn.length h.cs', .bool h.vw.on, .bool h.vw.good, .slice h.vw.M h.vw.row.length h.vw.cm, .string (strOf h.vw.par), .int .i64 h.vw.ps, .int .i64 h.vw.ov, .int .i64 h.ow, .int .i64 h.it, .int .i64 h.tg] 36)).alloc (.cells #[.int .i64 n] 3)) 36 #[.int .i64 0, .int .i64 0, .int .i64 0, .int .i64 0, .slice none 0 0, .bool false, .bool false, .slice none 0 0, .string ⟨#[]⟩, .int .i64 0, .int .i64 0, .int .i64 0, .int .i64 0, .int .i64 0]
    simpa using this
  have p0 : Blk W1 (w.heap.size + 1) 3 #[.int .i64 n] := by
    have := Blk.new (w.alloc (.cells #[.int .i64 h.id, .int .i64 h.vw.size, .int .i64 h.obj, .int .i64 h.seq, .slice h.S h.sn.length h.cs', .bool h.vw.on, .bool h.vw.good, .slice h.vw.M h.vw.row.length h.vw.cm, .string (strOf h.vw.par), .int .i64 h.vw.ps, .int .i64 h.vw.ov, .int .i64 h.ow, .int .i64 h.it, .int .i64 h.tg] 36)) 3 #[.int .i64 n]
    rw [hW1]
    exact ((by simpa using this : Blk ((w.alloc (.cells #[.int .i64 h.id, .int .i64 h.vw.size, .int .i64 h.obj, .int .i64 h.seq, .slice h.S h.sn.length h.cs', .bool h.vw.on, .bool h.vw.good, .slice h.vw.M h.vw.row.length h.vw.cm, .string (strOf h.vw.par), .int .i64 h.vw.ps, .int .i64 h.vw.ov, .int .i64 h.ow, .int .i64 h.it, .int .i64 h.tg] 36)).alloc (.cells #[.int .i64 n] 3)) (w.heap.size + 1) 3 #[.int .i64 n]).alloc _)
  have HCH := Lib.hid (change_any h W1 (hR.since h1.1) hS 108 (fun args w => by kernel_rfl) #[.pointer (some ⟨w.heap.size + 1, 0, none⟩)] [] (fun k hk => by cases hk) (fun k _ => AcqE h.v n k) (fun v _ => AcqO h.v n v) (fun _ _ _ _ p => p) (fun _ _ _ _ p => p) (fun W base g c hb1 hb2 hbw hg hk hN hD hcv hB => by
    rw [← hcv]; exact acq1_any W base g (w.heap.size + 1) c n hb2 hg (by have := h1.2.1; omega) hk ((p0.of (hbw.block _ p0.lt)).cell 0) hN hn))
  have HW1 := Lib.hid hW1
  have H1 := Lib.hid h1
  clear hW1 h1 hR hS p0
  unfold HA.cs at *
  have hz := head_zero
  go_enter Try.func67, Try.ntmps67
  go_upto_region 1 with (fail)
  rw [← HW1.out]
  clear HW1
  have K1 := H1.out.2.2.1
  go_wp2_with (have _h := K1; refine wpList_loadq rfl 36 (.tmp 2) rfl (w.heap.size) [.int .i64 h.id, .int .i64 h.vw.size, .int .i64 h.obj, .int .i64 h.seq, .slice h.S h.sn.length h.cs', .bool h.vw.on, .bool h.vw.good, .slice h.vw.M h.vw.row.length h.vw.cm, .string (strOf h.vw.par), .int .i64 h.vw.ps, .int .i64 h.vw.ov, .int .i64 h.ow, .int .i64 h.it, .int .i64 h.tg] _ rfl K1 Try.underlying36 rfl (by kernel_rfl) ?_; clear _h K1)
  refine HCH.out.mono ?_
  rintro e w2 ⟨f2, h2⟩
  have b2 : Below W1.heap.size W1 w2 := f2.below
  have K2 : Blk w2 (w.heap.size + 2) 36 #[.int .i64 0, .int .i64 0, .int .i64 0, .int .i64 0, .slice none 0 0, .bool false, .bool false, .slice none 0 0, .string ⟨#[]⟩, .int .i64 0, .int .i64 0, .int .i64 0, .int .i64 0, .int .i64 0] := H1.out.2.2.2.of (b2.block _ H1.out.2.2.2.lt)
  have HB2 : Hid (Below w.heap.size w w2) := Lib.hid (H1.out.1.trans (b2.mono H1.out.1.size))
  have hz2 := HB2.out.size
  have HR2 := Lib.hid K2
  clear b2 f2 HCH
  rcases h2 with ⟨hB, rfl⟩ | ⟨hB, k, rfl, hk0, hpe⟩ | ⟨hB, q, rfl, hqN, hpo⟩
  · have HH := Lib.hid hB
    clear hB
    simp only [errV, Z14]
    go_wp2_with (have _h := K2; refine wpList_storeq rfl 36 (.tmp 4) (.tmp 9) rfl (w.heap.size + 2) _ [.int .i64 0, .int .i64 0, .int .i64 0, .int .i64 0, .slice none 0 0, .bool false, .bool false, .slice none 0 0, .string ⟨#[]⟩, .int .i64 0, .int .i64 0, .int .i64 0, .int .i64 0, .int .i64 0] rfl rfl K2 (by simp) (by kernel_rfl) (one14 _ _ _ _ _ _ _ _ _ _ _ _ _ _ _ _ _ _) ?_; clear _h K2; intro w9 K9 o9 s9)
    refine bodyPost_ret (results_cell_tmp9 rfl _ _ (w.heap.size + 2) 36 _ (0, 0) _ _ rfl rfl K9 Try.underlying36 rfl (by kernel_rfl)) rfl ?_
    exact ⟨HB2.out.trans (o9.below (fun x hx => by simp at hx; omega) hz2), .inl ⟨HH.out, rfl⟩⟩
  · obtain ⟨k, rfl⟩ : ∃ k', k = k' + 1 := ⟨k - 1, by omega⟩
    have HH := Lib.hid (And.intro hB hpe)
    clear hB hpe hk0
    simp only [errV, Z14]
    go_wp2_with (have _h := K2; refine wpList_storeq rfl 36 (.tmp 4) (.tmp 9) rfl (w.heap.size + 2) _ [.int .i64 0, .int .i64 0, .int .i64 0, .int .i64 0, .slice none 0 0, .bool false, .bool false, .slice none 0 0, .string ⟨#[]⟩, .int .i64 0, .int .i64 0, .int .i64 0, .int .i64 0, .int .i64 0] rfl rfl K2 (by simp) (by kernel_rfl) (one14 _ _ _ _ _ _ _ _ _ _ _ _ _ _ _ _ _ _) ?_; clear _h K2; intro w9 K9 o9 s9)
    refine bodyPost_ret (results_cell_tmp9 rfl _ _ (w.heap.size + 2) 36 _ (0, 0) _ _ rfl rfl K9 Try.underlying36 rfl (by kernel_rfl)) rfl ?_
    exact ⟨HB2.out.trans (o9.below (fun x hx => by simp at hx; omega) hz2), .inr (.inl ⟨HH.out.1, k + 1, rfl, by omega, HH.out.2⟩)⟩
  · have HH := Lib.hid (And.intro hB (And.intro hqN hpo))
    clear hB hqN hpo
    unfold HA.cs
    go_wp2_with (have _h := K2; refine wpList_storeq rfl 36 (.tmp 4) (.tmp 9) rfl (w.heap.size + 2) _ [.int .i64 q.id, .int .i64 q.vw.size, .int .i64 q.obj, .int .i64 q.seq, .slice q.S q.sn.length q.cs', .bool q.vw.on, .bool q.vw.good, .slice q.vw.M q.vw.row.length q.vw.cm, .string (strOf q.vw.par), .int .i64 q.vw.ps, .int .i64 q.vw.ov, .int .i64 q.ow, .int .i64 q.it, .int .i64 q.tg] rfl rfl K2 (by simp) (by kernel_rfl) (one14 _ _ _ _ _ _ _ _ _ _ _ _ _ _ _ _ _ _) ?_; clear _h K2; intro w9 K9 o9 s9)
    refine bodyPost_ret (results_cell_tmp9 rfl _ _ (w.heap.size + 2) 36 _ (0, 0) _ _ rfl rfl K9 Try.underlying36 rfl (by kernel_rfl)) rfl ?_
    exact ⟨HB2.out.trans (o9.below (fun x hx => by simp at hx; omega) hz2), .inr (.inr ⟨HH.out.1, q, rfl, (HH.out.2.1.stay HR2.out o9).weaken (by have := H1.out.2.1; omega), HH.out.2.2⟩)⟩
set_option maxHeartbeats 16000000 in
theorem release_any (h : HA) (w : World) (n : Int) (hR : h.R SA.cells w) (hS : h.Sm) : Calls Try.prog 69 #[.agg h.cs, .int .i64 n] w (AnsTo w h.v (fun k => RelE h.v n k) (fun v => RelO h.v n v)) := by
  obtain ⟨W1, hW1⟩ : ∃ W, W = ((w.alloc (.cells #[.int .i64 h.id, .int .i64 h.vw.size, .int .i64 h.obj, .int .i64 h.seq, .slice h.S h.sn.length h.cs', .bool h.vw.on, .bool h.vw.good, .slice h.vw.M h.vw.row.length h.vw.cm, .string (strOf h.vw.par), .int .i64 h.vw.ps, .int .i64 h.vw.ov, .int .i64 h.ow, .int .i64 h.it, .int .i64 h.tg] 36)).alloc (.cells #[.int .i64 n] 3)).alloc (.cells #[.int .i64 0, .int .i64 0, .int .i64 0, .int .i64 0, .slice none 0 0, .bool false, .bool false, .slice none 0 0, .string ⟨#[]⟩, .int .i64 0, .int .i64 0, .int .i64 0, .int .i64 0, .int .i64 0] 36) := ⟨_, rfl⟩
  have h1 : Below w.heap.size w W1 ∧ W1.heap.size = w.heap.size + 3 ∧ Blk W1 w.heap.size 36 #[.int .i64 h.id, .int .i64 h.vw.size, .int .i64 h.obj, .int .i64 h.seq, .slice h.S h.sn.length h.cs', .bool h.vw.on, .bool h.vw.good, .slice h.vw.M h.vw.row.length h.vw.cm, .string (strOf h.vw.par), .int .i64 h.vw.ps, .int .i64 h.vw.ov, .int .i64 h.ow, .int .i64 h.it, .int .i64 h.tg] ∧ Blk W1 (w.heap.size + 2) 36 #[.int .i64 0, .int .i64 0, .int .i64 0, .int .i64 0, .slice none 0 0, .bool false, .bool false, .slice none 0 0, .string ⟨#[]⟩, .int .i64 0, .int .i64 0, .int .i64 0, .int .i64 0, .int .i64 0] := by
    rw [hW1]
    refine ⟨(((below_alloc w _).alloc (by simp <;> omega) _).alloc (by simp <;> omega) _), by simp, (((Blk.new w _ _).alloc _).alloc _), ?_⟩
    have := Blk.new ((w.alloc (.cells #[.int .i64 h.id, .int .i64 h.vw.size, .int .i64 h.obj, .int .i64 h.seq, .slice h.S h.sn.length h.cs', .bool h.vw.on, .bool h.vw.good, .slice h.vw.M h.vw.row.length h.vw.cm, .string (strOf h.vw.par), .int .i64 h.vw.ps, .int .i64 h.vw.ov, .int .i64 h.ow, .int .i64 h.it, .int .i64 h.tg] 36)).alloc (.cells #[.int .i64 n] 3)) 36 #[.int .i64 0, .int .i64 0, .int .i64 0, .int .i64 0, .slice none 0 0, .bool false, .bool false, .slice none 0 0, .string ⟨#[]⟩, .int .i64 0, .int .i64 0, .int .i64 0, .int .i64 0, .int .i64 0]
    simpa using this
  have p0 : Blk W1 (w.heap.size + 1) 3 #[.int .i64 n] := by
    have := Blk.new (w.alloc (.cells #[.int .i64 h.id, .int .i64 h.vw.size, .int .i64 h.obj, .int .i64 h.seq, .slice h.S h.sn.length h.cs', .bool h.vw.on, .bool h.vw.good, .slice h.vw.M h.vw.row.length h.vw.cm, .string (strOf h.vw.par), .int .i64 h.vw.ps, .int .i64 h.vw.ov, .int .i64 h.ow, .int .i64 h.it, .int .i64 h.tg] 36)) 3 #[.int .i64 n]
    rw [hW1]
    exact ((by simpa using this : Blk ((w.alloc (.cells #[.int .i64 h.id, .int .i64 h.vw.size, .int .i64 h.obj, .int .i64 h.seq, .slice h.S h.sn.length h.cs', .bool h.vw.on, .bool h.vw.good, .slice h.vw.M h.vw.row.length h.vw.cm, .string (strOf h.vw.par), .int .i64 h.vw.ps, .int .i64 h.vw.ov, .int .i64 h.ow, .int .i64 h.it, .int .i64 h.tg] 36)).alloc (.cells #[.int .i64 n] 3)) (w.heap.size + 1) 3 #[.int .i64 n]).alloc _)
  have HCH := Lib.hid (change_any h W1 (hR.since h1.1) hS 111 (fun args w => by kernel_rfl) #[.pointer (some ⟨w.heap.size + 1, 0, none⟩)] [] (fun k hk => by cases hk) (fun k _ => RelE h.v n k) (fun v _ => RelO h.v n v) (fun _ _ _ _ p => p) (fun _ _ _ _ p => p) (fun W base g c hb1 hb2 hbw hg hk hN hD hcv hB => by
    rw [← hcv]; exact rel1_any W base g c (w.heap.size + 1) n hb2 hg hk hN ((p0.of (hbw.block _ p0.lt)).cell 0)))
  have HW1 := Lib.hid hW1
  have H1 := Lib.hid h1
  clear hW1 h1 hR hS p0
  unfold HA.cs at *
  have hz := head_zero
  go_enter Try.func69, Try.ntmps69
  go_upto_region 1 with (fail)
  rw [← HW1.out]
  clear HW1
  have K1 := H1.out.2.2.1
  go_wp2_with (have _h := K1; refine wpList_loadq rfl 36 (.tmp 2) rfl (w.heap.size) [.int .i64 h.id, .int .i64 h.vw.size, .int .i64 h.obj, .int .i64 h.seq, .slice h.S h.sn.length h.cs', .bool h.vw.on, .bool h.vw.good, .slice h.vw.M h.vw.row.length h.vw.cm, .string (strOf h.vw.par), .int .i64 h.vw.ps, .int .i64 h.vw.ov, .int .i64 h.ow, .int .i64 h.it, .int .i64 h.tg] _ rfl K1 Try.underlying36 rfl (by kernel_rfl) ?_; clear _h K1)
  refine HCH.out.mono ?_
  rintro e w2 ⟨f2, h2⟩
  have b2 : Below W1.heap.size W1 w2 := f2.below
  have K2 : Blk w2 (w.heap.size + 2) 36 #[.int .i64 0, .int .i64 0, .int .i64 0, .int .i64 0, .slice none 0 0, .bool false, .bool false, .slice none 0 0, .string ⟨#[]⟩, .int .i64 0, .int .i64 0, .int .i64 0, .int .i64 0, .int .i64 0] := H1.out.2.2.2.of (b2.block _ H1.out.2.2.2.lt)
  have HB2 : Hid (Below w.heap.size w w2) := Lib.hid (H1.out.1.trans (b2.mono H1.out.1.size))
  have hz2 := HB2.out.size
  have HR2 := Lib.hid K2
  clear b2 f2 HCH
  rcases h2 with ⟨hB, rfl⟩ | ⟨hB, k, rfl, hk0, hpe⟩ | ⟨hB, q, rfl, hqN, hpo⟩
  · have HH := Lib.hid hB
    clear hB
    simp only [errV, Z14]
    go_wp2_with (have _h := K2; refine wpList_storeq rfl 36 (.tmp 4) (.tmp 9) rfl (w.heap.size + 2) _ [.int .i64 0, .int .i64 0, .int .i64 0, .int .i64 0, .slice none 0 0, .bool false, .bool false, .slice none 0 0, .string ⟨#[]⟩, .int .i64 0, .int .i64 0, .int .i64 0, .int .i64 0, .int .i64 0] rfl rfl K2 (by simp) (by kernel_rfl) (one14 _ _ _ _ _ _ _ _ _ _ _ _ _ _ _ _ _ _) ?_; clear _h K2; intro w9 K9 o9 s9)
    refine bodyPost_ret (results_cell_tmp9 rfl _ _ (w.heap.size + 2) 36 _ (0, 0) _ _ rfl rfl K9 Try.underlying36 rfl (by kernel_rfl)) rfl ?_
    exact ⟨HB2.out.trans (o9.below (fun x hx => by simp at hx; omega) hz2), .inl ⟨HH.out, rfl⟩⟩
  · obtain ⟨k, rfl⟩ : ∃ k', k = k' + 1 := ⟨k - 1, by omega⟩
    have HH := Lib.hid (And.intro hB hpe)
    clear hB hpe hk0
    simp only [errV, Z14]
    go_wp2_with (have _h := K2; refine wpList_storeq rfl 36 (.tmp 4) (.tmp 9) rfl (w.heap.size + 2) _ [.int .i64 0, .int .i64 0, .int .i64 0, .int .i64 0, .slice none 0 0, .bool false, .bool false, .slice none 0 0, .string ⟨#[]⟩, .int .i64 0, .int .i64 0, .int .i64 0, .int .i64 0, .int .i64 0] rfl rfl K2 (by simp) (by kernel_rfl) (one14 _ _ _ _ _ _ _ _ _ _ _ _ _ _ _ _ _ _) ?_; clear _h K2; intro w9 K9 o9 s9)
    refine bodyPost_ret (results_cell_tmp9 rfl _ _ (w.heap.size + 2) 36 _ (0, 0) _ _ rfl rfl K9 Try.underlying36 rfl (by kernel_rfl)) rfl ?_
    exact ⟨HB2.out.trans (o9.below (fun x hx => by simp at hx; omega) hz2), .inr (.inl ⟨HH.out.1, k + 1, rfl, by omega, HH.out.2⟩)⟩
  · have HH := Lib.hid (And.intro hB (And.intro hqN hpo))
    clear hB hqN hpo
    unfold HA.cs
    go_wp2_with (have _h := K2; refine wpList_storeq rfl 36 (.tmp 4) (.tmp 9) rfl (w.heap.size + 2) _ [.int .i64 q.id, .int .i64 q.vw.size, .int .i64 q.obj, .int .i64 q.seq, .slice q.S q.sn.length q.cs', .bool q.vw.on, .bool q.vw.good, .slice q.vw.M q.vw.row.length q.vw.cm, .string (strOf q.vw.par), .int .i64 q.vw.ps, .int .i64 q.vw.ov, .int .i64 q.ow, .int .i64 q.it, .int .i64 q.tg] rfl rfl K2 (by simp) (by kernel_rfl) (one14 _ _ _ _ _ _ _ _ _ _ _ _ _ _ _ _ _ _) ?_; clear _h K2; intro w9 K9 o9 s9)
    refine bodyPost_ret (results_cell_tmp9 rfl _ _ (w.heap.size + 2) 36 _ (0, 0) _ _ rfl rfl K9 Try.underlying36 rfl (by kernel_rfl)) rfl ?_
    exact ⟨HB2.out.trans (o9.below (fun x hx => by simp at hx; omega) hz2), .inr (.inr ⟨HH.out.1, q, rfl, (HH.out.2.1.stay HR2.out o9).weaken (by have := H1.out.2.1; omega), HH.out.2.2⟩)⟩
set_option maxHeartbeats 16000000 in
theorem grow_any (h : HA) (w : World) (n : Int) (hR : h.R SA.cells w) (hS : h.Sm) : Calls Try.prog 76 #[.agg h.cs, .int .i64 n] w (AnsTo w h.v (fun k => GroE h.v n k) (fun v => GroO h.v n v)) := by
  obtain ⟨W1, hW1⟩ : ∃ W, W = ((w.alloc (.cells #[.int .i64 h.id, .int .i64 h.vw.size, .int .i64 h.obj, .int .i64 h.seq, .slice h.S h.sn.length h.cs', .bool h.vw.on, .bool h.vw.good, .slice h.vw.M h.vw.row.length h.vw.cm, .string (strOf h.vw.par), .int .i64 h.vw.ps, .int .i64 h.vw.ov, .int .i64 h.ow, .int .i64 h.it, .int .i64 h.tg] 36)).alloc (.cells #[.int .i64 n] 3)).alloc (.cells #[.int .i64 0, .int .i64 0, .int .i64 0, .int .i64 0, .slice none 0 0, .bool false, .bool false, .slice none 0 0, .string ⟨#[]⟩, .int .i64 0, .int .i64 0, .int .i64 0, .int .i64 0, .int .i64 0] 36) := ⟨_, rfl⟩
  have h1 : Below w.heap.size w W1 ∧ W1.heap.size = w.heap.size + 3 ∧ Blk W1 w.heap.size 36 #[.int .i64 h.id, .int .i64 h.vw.size, .int .i64 h.obj, .int .i64 h.seq, .slice h.S h.sn.length h.cs', .bool h.vw.on, .bool h.vw.good, .slice h.vw.M h.vw.row.length h.vw.cm, .string (strOf h.vw.par), .int .i64 h.vw.ps, .int .i64 h.vw.ov, .int .i64 h.ow, .int .i64 h.it, .int .i64 h.tg] ∧ Blk W1 (w.heap.size + 2) 36 #[.int .i64 0, .int .i64 0, .int .i64 0, .int .i64 0, .slice none 0 0, .bool false, .bool false, .slice none 0 0, .string ⟨#[]⟩, .int .i64 0, .int .i64 0, .int .i64 0, .int .i64 0, .int .i64 0] := by
    rw [hW1]
    refine ⟨(((below_alloc w _).alloc (by simp <;> omega) _).alloc (by simp <;> omega) _), by simp, (((Blk.new w _ _).alloc _).alloc _), ?_⟩
    have := Blk.new ((w.alloc (.cells #[.int .i64 h.id, .int .i64 h.vw.size, .int .i64 h.obj, .int .i64 h.seq, .slice h.S h.sn.length h.cs', .bool h.vw.on, .bool h.vw.good, .slice h.vw.M h.vw.row.length h.vw.cm, .string (strOf h.vw.par), .int .i64 h.vw.ps, .int .i64 h.vw.ov, .int .i64 h.ow, .int .i64 h.it, .int .i64 h.tg] 36)).alloc (.cells #[.int .i64 n] 3)) 36 #[.int .i64 0, .int .i64 0, .int .i64 0, .int .i64 0, .slice none 0 0, .bool false, .bool false, .slice none 0 0, .string ⟨#[]⟩, .int .i64 0, .int .i64 0, .int .i64 0, .int .i64 0, .int .i64 0]
    simpa using this
  have p0 : Blk W1 (w.heap.size + 1) 3 #[.int .i64 n] := by
    have := Blk.new (w.alloc (.cells #[.int .i64 h.id, .int .i64 h.vw.size, .int .i64 h.obj, .int .i64 h.seq, .slice h.S h.sn.length h.cs', .bool h.vw.on, .bool h.vw.good, .slice h.vw.M h.vw.row.length h.vw.cm, .string (strOf h.vw.par), .int .i64 h.vw.ps, .int .i64 h.vw.ov, .int .i64 h.ow, .int .i64 h.it, .int .i64 h.tg] 36)) 3 #[.int .i64 n]
    rw [hW1]
    exact ((by simpa using this : Blk ((w.alloc (.cells #[.int .i64 h.id, .int .i64 h.vw.size, .int .i64 h.obj, .int .i64 h.seq, .slice h.S h.sn.length h.cs', .bool h.vw.on, .bool h.vw.good, .slice h.vw.M h.vw.row.length h.vw.cm, .string (strOf h.vw.par), .int .i64 h.vw.ps, .int .i64 h.vw.ov, .int .i64 h.ow, .int .i64 h.it, .int .i64 h.tg] 36)).alloc (.cells #[.int .i64 n] 3)) (w.heap.size + 1) 3 #[.int .i64 n]).alloc _)
  have HCH := Lib.hid (change_any h W1 (hR.since h1.1) hS 124 (fun args w => by kernel_rfl) #[.pointer (some ⟨w.heap.size + 1, 0, none⟩)] [] (fun k hk => by cases hk) (fun k _ => GroE h.v n k) (fun v _ => GroO h.v n v) (fun _ _ _ _ p => p) (fun _ _ _ _ p => p) (fun W base g c hb1 hb2 hbw hg hk hN hD hcv hB => by
    rw [← hcv]; exact gro1_any W base g c (w.heap.size + 1) n hb2 hg hk hN (hcv ▸ hB) ((p0.of (hbw.block _ p0.lt)).cell 0)))
  have HW1 := Lib.hid hW1
  have H1 := Lib.hid h1
  clear hW1 h1 hR hS p0
  unfold HA.cs at *
  have hz := head_zero
  go_enter Try.func76, Try.ntmps76
  go_upto_region 1 with (fail)
  rw [← HW1.out]
  clear HW1
  have K1 := H1.out.2.2.1
  go_wp2_with (have _h := K1; refine wpList_loadq rfl 36 (.tmp 2) rfl (w.heap.size) [.int .i64 h.id, .int .i64 h.vw.size, .int .i64 h.obj, .int .i64 h.seq, .slice h.S h.sn.length h.cs', .bool h.vw.on, .bool h.vw.good, .slice h.vw.M h.vw.row.length h.vw.cm, .string (strOf h.vw.par), .int .i64 h.vw.ps, .int .i64 h.vw.ov, .int .i64 h.ow, .int .i64 h.it, .int .i64 h.tg] _ rfl K1 Try.underlying36 rfl (by kernel_rfl) ?_; clear _h K1)
  refine HCH.out.mono ?_
  rintro e w2 ⟨f2, h2⟩
  have b2 : Below W1.heap.size W1 w2 := f2.below
  have K2 : Blk w2 (w.heap.size + 2) 36 #[.int .i64 0, .int .i64 0, .int .i64 0, .int .i64 0, .slice none 0 0, .bool false, .bool false, .slice none 0 0, .string ⟨#[]⟩, .int .i64 0, .int .i64 0, .int .i64 0, .int .i64 0, .int .i64 0] := H1.out.2.2.2.of (b2.block _ H1.out.2.2.2.lt)
  have HB2 : Hid (Below w.heap.size w w2) := Lib.hid (H1.out.1.trans (b2.mono H1.out.1.size))
  have hz2 := HB2.out.size
  have HR2 := Lib.hid K2
  clear b2 f2 HCH
  rcases h2 with ⟨hB, rfl⟩ | ⟨hB, k, rfl, hk0, hpe⟩ | ⟨hB, q, rfl, hqN, hpo⟩
  · have HH := Lib.hid hB
    clear hB
    simp only [errV, Z14]
    go_wp2_with (have _h := K2; refine wpList_storeq rfl 36 (.tmp 4) (.tmp 9) rfl (w.heap.size + 2) _ [.int .i64 0, .int .i64 0, .int .i64 0, .int .i64 0, .slice none 0 0, .bool false, .bool false, .slice none 0 0, .string ⟨#[]⟩, .int .i64 0, .int .i64 0, .int .i64 0, .int .i64 0, .int .i64 0] rfl rfl K2 (by simp) (by kernel_rfl) (one14 _ _ _ _ _ _ _ _ _ _ _ _ _ _ _ _ _ _) ?_; clear _h K2; intro w9 K9 o9 s9)
    refine bodyPost_ret (results_cell_tmp9 rfl _ _ (w.heap.size + 2) 36 _ (0, 0) _ _ rfl rfl K9 Try.underlying36 rfl (by kernel_rfl)) rfl ?_
    exact ⟨HB2.out.trans (o9.below (fun x hx => by simp at hx; omega) hz2), .inl ⟨HH.out, rfl⟩⟩
  · obtain ⟨k, rfl⟩ : ∃ k', k = k' + 1 := ⟨k - 1, by omega⟩
    have HH := Lib.hid (And.intro hB hpe)
    clear hB hpe hk0
    simp only [errV, Z14]
    go_wp2_with (have _h := K2; refine wpList_storeq rfl 36 (.tmp 4) (.tmp 9) rfl (w.heap.size + 2) _ [.int .i64 0, .int .i64 0, .int .i64 0, .int .i64 0, .slice none 0 0, .bool false, .bool false, .slice none 0 0, .string ⟨#[]⟩, .int .i64 0, .int .i64 0, .int .i64 0, .int .i64 0, .int .i64 0] rfl rfl K2 (by simp) (by kernel_rfl) (one14 _ _ _ _ _ _ _ _ _ _ _ _ _ _ _ _ _ _) ?_; clear _h K2; intro w9 K9 o9 s9)
    refine bodyPost_ret (results_cell_tmp9 rfl _ _ (w.heap.size + 2) 36 _ (0, 0) _ _ rfl rfl K9 Try.underlying36 rfl (by kernel_rfl)) rfl ?_
    exact ⟨HB2.out.trans (o9.below (fun x hx => by simp at hx; omega) hz2), .inr (.inl ⟨HH.out.1, k + 1, rfl, by omega, HH.out.2⟩)⟩
  · have HH := Lib.hid (And.intro hB (And.intro hqN hpo))
    clear hB hqN hpo
    unfold HA.cs
    go_wp2_with (have _h := K2; refine wpList_storeq rfl 36 (.tmp 4) (.tmp 9) rfl (w.heap.size + 2) _ [.int .i64 q.id, .int .i64 q.vw.size, .int .i64 q.obj, .int .i64 q.seq, .slice q.S q.sn.length q.cs', .bool q.vw.on, .bool q.vw.good, .slice q.vw.M q.vw.row.length q.vw.cm, .string (strOf q.vw.par), .int .i64 q.vw.ps, .int .i64 q.vw.ov, .int .i64 q.ow, .int .i64 q.it, .int .i64 q.tg] rfl rfl K2 (by simp) (by kernel_rfl) (one14 _ _ _ _ _ _ _ _ _ _ _ _ _ _ _ _ _ _) ?_; clear _h K2; intro w9 K9 o9 s9)
    refine bodyPost_ret (results_cell_tmp9 rfl _ _ (w.heap.size + 2) 36 _ (0, 0) _ _ rfl rfl K9 Try.underlying36 rfl (by kernel_rfl)) rfl ?_
    exact ⟨HB2.out.trans (o9.below (fun x hx => by simp at hx; omega) hz2), .inr (.inr ⟨HH.out.1, q, rfl, (HH.out.2.1.stay HR2.out o9).weaken (by have := H1.out.2.1; omega), HH.out.2.2⟩)⟩
set_option maxHeartbeats 16000000 in
theorem begin_any (h : HA) (w : World) (n t : Int) (hn : I64 n) (ht : I64 t) (hR : h.R SA.cells w) (hS : h.Sm) : Calls Try.prog 77 #[.agg h.cs, .int .i64 n, .int .i64 t] w (AnsTo w h.v (fun k => k = refB h.v n t) (fun v => BegO h.v n t v)) := by
  obtain ⟨W1, hW1⟩ : ∃ W, W = (((w.alloc (.cells #[.int .i64 h.id, .int .i64 h.vw.size, .int .i64 h.obj, .int .i64 h.seq, .slice h.S h.sn.length h.cs', .bool h.vw.on, .bool h.vw.good, .slice h.vw.M h.vw.row.length h.vw.cm, .string (strOf h.vw.par), .int .i64 h.vw.ps, .int .i64 h.vw.ov, .int .i64 h.ow, .int .i64 h.it, .int .i64 h.tg] 36)).alloc (.cells #[.int .i64 n] 3)).alloc (.cells #[.int .i64 t] 3)).alloc (.cells #[.int .i64 0, .int .i64 0, .int .i64 0, .int .i64 0, .slice none 0 0, .bool false, .bool false, .slice none 0 0, .string ⟨#[]⟩, .int .i64 0, .int .i64 0, .int .i64 0, .int .i64 0, .int .i64 0] 36) := ⟨_, rfl⟩
  have h1 : Below w.heap.size w W1 ∧ W1.heap.size = w.heap.size + 4 ∧ Blk W1 w.heap.size 36 #[.int .i64 h.id, .int .i64 h.vw.size, .int .i64 h.obj, .int .i64 h.seq, .slice h.S h.sn.length h.cs', .bool h.vw.on, .bool h.vw.good, .slice h.vw.M h.vw.row.length h.vw.cm, .string (strOf h.vw.par), .int .i64 h.vw.ps, .int .i64 h.vw.ov, .int .i64 h.ow, .int .i64 h.it, .int .i64 h.tg] ∧ Blk W1 (w.heap.size + 3) 36 #[.int .i64 0, .int .i64 0, .int .i64 0, .int .i64 0, .slice none 0 0, .bool false, .bool false, .slice none 0 0, .string ⟨#[]⟩, .int .i64 0, .int .i64 0, .int .i64 0, .int .i64 0, .int .i64 0] := by
    rw [hW1]
    refine ⟨((((below_alloc w _).alloc (by simp <;> omega) _).alloc (by simp <;> omega) _).alloc (by simp <;> omega) _), by simp, ((((Blk.new w _ _).alloc _).alloc _).alloc _), ?_⟩
    have := Blk.new (((w.alloc (.cells #[.int .i64 h.id, .int .i64 h.vw.size, .int .i64 h.obj, .int .i64 h.seq, .slice h.S h.sn.length h.cs', .bool h.vw.on, .bool h.vw.good, .slice h.vw.M h.vw.row.length h.vw.cm, .string (strOf h.vw.par), .int .i64 h.vw.ps, .int .i64 h.vw.ov, .int .i64 h.ow, .int .i64 h.it, .int .i64 h.tg] 36)).alloc (.cells #[.int .i64 n] 3)).alloc (.cells #[.int .i64 t] 3)) 36 #[.int .i64 0, .int .i64 0, .int .i64 0, .int .i64 0, .slice none 0 0, .bool false, .bool false, .slice none 0 0, .string ⟨#[]⟩, .int .i64 0, .int .i64 0, .int .i64 0, .int .i64 0, .int .i64 0]
    simpa using this
  have p0 : Blk W1 (w.heap.size + 1) 3 #[.int .i64 n] := by
    have := Blk.new (w.alloc (.cells #[.int .i64 h.id, .int .i64 h.vw.size, .int .i64 h.obj, .int .i64 h.seq, .slice h.S h.sn.length h.cs', .bool h.vw.on, .bool h.vw.good, .slice h.vw.M h.vw.row.length h.vw.cm, .string (strOf h.vw.par), .int .i64 h.vw.ps, .int .i64 h.vw.ov, .int .i64 h.ow, .int .i64 h.it, .int .i64 h.tg] 36)) 3 #[.int .i64 n]
    rw [hW1]
    exact (((by simpa using this : Blk ((w.alloc (.cells #[.int .i64 h.id, .int .i64 h.vw.size, .int .i64 h.obj, .int .i64 h.seq, .slice h.S h.sn.length h.cs', .bool h.vw.on, .bool h.vw.good, .slice h.vw.M h.vw.row.length h.vw.cm, .string (strOf h.vw.par), .int .i64 h.vw.ps, .int .i64 h.vw.ov, .int .i64 h.ow, .int .i64 h.it, .int .i64 h.tg] 36)).alloc (.cells #[.int .i64 n] 3)) (w.heap.size + 1) 3 #[.int .i64 n]).alloc _).alloc _)
  have p1 : Blk W1 (w.heap.size + 2) 3 #[.int .i64 t] := by
    have := Blk.new ((w.alloc (.cells #[.int .i64 h.id, .int .i64 h.vw.size, .int .i64 h.obj, .int .i64 h.seq, .slice h.S h.sn.length h.cs', .bool h.vw.on, .bool h.vw.good, .slice h.vw.M h.vw.row.length h.vw.cm, .string (strOf h.vw.par), .int .i64 h.vw.ps, .int .i64 h.vw.ov, .int .i64 h.ow, .int .i64 h.it, .int .i64 h.tg] 36)).alloc (.cells #[.int .i64 n] 3)) 3 #[.int .i64 t]
    rw [hW1]
    exact ((by simpa using this : Blk (((w.alloc (.cells #[.int .i64 h.id, .int .i64 h.vw.size, .int .i64 h.obj, .int .i64 h.seq, .slice h.S h.sn.length h.cs', .bool h.vw.on, .bool h.vw.good, .slice h.vw.M h.vw.row.length h.vw.cm, .string (strOf h.vw.par), .int .i64 h.vw.ps, .int .i64 h.vw.ov, .int .i64 h.ow, .int .i64 h.it, .int .i64 h.tg] 36)).alloc (.cells #[.int .i64 n] 3)).alloc (.cells #[.int .i64 t] 3)) (w.heap.size + 2) 3 #[.int .i64 t]).alloc _)
  have HCH := Lib.hid (change_any h W1 (hR.since h1.1) hS 126 (fun args w => by kernel_rfl) #[.pointer (some ⟨w.heap.size + 1, 0, none⟩), .pointer (some ⟨w.heap.size + 2, 0, none⟩)] [] (fun k hk => by cases hk) (fun k _ => k = refB h.v n t) (fun v _ => BegO h.v n t v) (fun _ _ _ _ p => p) (fun _ _ _ _ p => p) (fun W base g c hb1 hb2 hbw hg hk hN hD hcv hB => by
    rw [← hcv]; exact beg1_any W base g c (w.heap.size + 1) (w.heap.size + 2) n t hb2 hg hk hN (by have e : c.sn.length = h.sn.length := by { have := congrArg (fun v => v.sn.length) hcv; simpa [HA.v] using this }; have := hS.cn; omega) (by have := h1.2.1; omega) (by have := h1.2.1; omega) ((p0.of (hbw.block _ p0.lt)).cell 0) ((p1.of (hbw.block _ p1.lt)).cell 0) hn ht))
  have HW1 := Lib.hid hW1
  have H1 := Lib.hid h1
  clear hW1 h1 hR hS p0 p1
  unfold HA.cs at *
  have hz := head_zero
  go_enter Try.func77, Try.ntmps77
  go_upto_region 1 with (fail)
  rw [← HW1.out]
  clear HW1
  have K1 := H1.out.2.2.1
  go_wp2_with (have _h := K1; refine wpList_loadq rfl 36 (.tmp 3) rfl (w.heap.size) [.int .i64 h.id, .int .i64 h.vw.size, .int .i64 h.obj, .int .i64 h.seq, .slice h.S h.sn.length h.cs', .bool h.vw.on, .bool h.vw.good, .slice h.vw.M h.vw.row.length h.vw.cm, .string (strOf h.vw.par), .int .i64 h.vw.ps, .int .i64 h.vw.ov, .int .i64 h.ow, .int .i64 h.it, .int .i64 h.tg] _ rfl K1 Try.underlying36 rfl (by kernel_rfl) ?_; clear _h K1)
  refine HCH.out.mono ?_
  rintro e w2 ⟨f2, h2⟩
  have b2 : Below W1.heap.size W1 w2 := f2.below
  have K2 : Blk w2 (w.heap.size + 3) 36 #[.int .i64 0, .int .i64 0, .int .i64 0, .int .i64 0, .slice none 0 0, .bool false, .bool false, .slice none 0 0, .string ⟨#[]⟩, .int .i64 0, .int .i64 0, .int .i64 0, .int .i64 0, .int .i64 0] := H1.out.2.2.2.of (b2.block _ H1.out.2.2.2.lt)
  have HB2 : Hid (Below w.heap.size w w2) := Lib.hid (H1.out.1.trans (b2.mono H1.out.1.size))
  have hz2 := HB2.out.size
  have HR2 := Lib.hid K2
  clear b2 f2 HCH
  rcases h2 with ⟨hB, rfl⟩ | ⟨hB, k, rfl, hk0, hpe⟩ | ⟨hB, q, rfl, hqN, hpo⟩
  · have HH := Lib.hid hB
    clear hB
    simp only [errV, Z14]
    go_wp2_with (have _h := K2; refine wpList_storeq rfl 36 (.tmp 6) (.tmp 11) rfl (w.heap.size + 3) _ [.int .i64 0, .int .i64 0, .int .i64 0, .int .i64 0, .slice none 0 0, .bool false, .bool false, .slice none 0 0, .string ⟨#[]⟩, .int .i64 0, .int .i64 0, .int .i64 0, .int .i64 0, .int .i64 0] rfl rfl K2 (by simp) (by kernel_rfl) (one14 _ _ _ _ _ _ _ _ _ _ _ _ _ _ _ _ _ _) ?_; clear _h K2; intro w9 K9 o9 s9)
    refine bodyPost_ret (results_cell_tmp9 rfl _ _ (w.heap.size + 3) 36 _ (0, 0) _ _ rfl rfl K9 Try.underlying36 rfl (by kernel_rfl)) rfl ?_
    exact ⟨HB2.out.trans (o9.below (fun x hx => by simp at hx; omega) hz2), .inl ⟨HH.out, rfl⟩⟩
  · obtain ⟨k, rfl⟩ : ∃ k', k = k' + 1 := ⟨k - 1, by omega⟩
    have HH := Lib.hid (And.intro hB hpe)
    clear hB hpe hk0
    simp only [errV, Z14]
    go_wp2_with (have _h := K2; refine wpList_storeq rfl 36 (.tmp 6) (.tmp 11) rfl (w.heap.size + 3) _ [.int .i64 0, .int .i64 0, .int .i64 0, .int .i64 0, .slice none 0 0, .bool false, .bool false, .slice none 0 0, .string ⟨#[]⟩, .int .i64 0, .int .i64 0, .int .i64 0, .int .i64 0, .int .i64 0] rfl rfl K2 (by simp) (by kernel_rfl) (one14 _ _ _ _ _ _ _ _ _ _ _ _ _ _ _ _ _ _) ?_; clear _h K2; intro w9 K9 o9 s9)
    refine bodyPost_ret (results_cell_tmp9 rfl _ _ (w.heap.size + 3) 36 _ (0, 0) _ _ rfl rfl K9 Try.underlying36 rfl (by kernel_rfl)) rfl ?_
    exact ⟨HB2.out.trans (o9.below (fun x hx => by simp at hx; omega) hz2), .inr (.inl ⟨HH.out.1, k + 1, rfl, by omega, HH.out.2⟩)⟩
  · have HH := Lib.hid (And.intro hB (And.intro hqN hpo))
    clear hB hqN hpo
    unfold HA.cs
    go_wp2_with (have _h := K2; refine wpList_storeq rfl 36 (.tmp 6) (.tmp 11) rfl (w.heap.size + 3) _ [.int .i64 q.id, .int .i64 q.vw.size, .int .i64 q.obj, .int .i64 q.seq, .slice q.S q.sn.length q.cs', .bool q.vw.on, .bool q.vw.good, .slice q.vw.M q.vw.row.length q.vw.cm, .string (strOf q.vw.par), .int .i64 q.vw.ps, .int .i64 q.vw.ov, .int .i64 q.ow, .int .i64 q.it, .int .i64 q.tg] rfl rfl K2 (by simp) (by kernel_rfl) (one14 _ _ _ _ _ _ _ _ _ _ _ _ _ _ _ _ _ _) ?_; clear _h K2; intro w9 K9 o9 s9)
    refine bodyPost_ret (results_cell_tmp9 rfl _ _ (w.heap.size + 3) 36 _ (0, 0) _ _ rfl rfl K9 Try.underlying36 rfl (by kernel_rfl)) rfl ?_
    exact ⟨HB2.out.trans (o9.below (fun x hx => by simp at hx; omega) hz2), .inr (.inr ⟨HH.out.1, q, rfl, (HH.out.2.1.stay HR2.out o9).weaken (by have := H1.out.2.1; omega), HH.out.2.2⟩)⟩
end Go.Proofs.Ytiimanoloedbeaa

/-
  Owns and Break: what they answer. Conditions: the head reads as it is said to, and is small.
-/
namespace Go.Proofs.Ytiimanoloedbeaa
open Go.RowKit Go.BigFrame
set_option linter.unusedSimpArgs false
set_option linter.unusedVariables false
set_option maxRecDepth 100000
def OwnsTo (w : World) (v : HdV) (n : Int) (e : Ending) (w' : World) : Prop :=
  Below w.heap.size w w' ∧ ((v.B = false ∧ e = .returned (errV 2)) ∨ (v.B = true ∧ ownedB v n = false ∧ e = .returned (errV 10)) ∨ (v.B = true ∧ ownedB v n = true ∧ e = .returned .nilIface))
set_option maxHeartbeats 16000000 in
theorem ownsc_any (h : HA) (w : World) (n : Int) (hR : h.R SA.cells w) (hS : h.Sm) : Calls Try.prog 68 #[.agg h.cs, .int .i64 n] w (OwnsTo w h.v n) := by
  obtain ⟨W1, hW1⟩ : ∃ W, W = (w.alloc (.cells #[.int .i64 h.id, .int .i64 h.vw.size, .int .i64 h.obj, .int .i64 h.seq, .slice h.S h.sn.length h.cs', .bool h.vw.on, .bool h.vw.good, .slice h.vw.M h.vw.row.length h.vw.cm, .string (strOf h.vw.par), .int .i64 h.vw.ps, .int .i64 h.vw.ov, .int .i64 h.ow, .int .i64 h.it, .int .i64 h.tg] 36)).alloc (.cells #[.int .i64 n] 3) := ⟨_, rfl⟩
  have h1 : Below w.heap.size w W1 ∧ W1.heap.size = w.heap.size + 2 ∧ Blk W1 w.heap.size 36 #[.int .i64 h.id, .int .i64 h.vw.size, .int .i64 h.obj, .int .i64 h.seq, .slice h.S h.sn.length h.cs', .bool h.vw.on, .bool h.vw.good, .slice h.vw.M h.vw.row.length h.vw.cm, .string (strOf h.vw.par), .int .i64 h.vw.ps, .int .i64 h.vw.ov, .int .i64 h.ow, .int .i64 h.it, .int .i64 h.tg] ∧ Blk W1 (w.heap.size + 1) 3 #[.int .i64 n] := by
    rw [hW1]
    exact ⟨(below_alloc w _).alloc (by simp) _, by simp, (Blk.new w _ _).alloc _, blk_two _ _ _ _⟩
  have HCH := Lib.hid (change_any h W1 (hR.since h1.1) hS 109 (fun args w => by kernel_rfl) #[.pointer (some ⟨w.heap.size + 1, 0, none⟩)] [] (fun k hk => by cases hk) (fun k _ => OwnsE h.v n k) (fun v _ => OwnsO h.v n v) (fun _ _ _ _ p => p) (fun _ _ _ _ p => p) (fun W base g c hb1 hb2 hbw hg hk hN hD hcv hB => by
    rw [← hcv]; exact owns1_any W base g c (w.heap.size + 1) n hb2 hg hk hN ((h1.2.2.2.of (hbw.block _ h1.2.2.2.lt)).cell 0)))
  have HW1 := Lib.hid hW1
  have H1 := Lib.hid h1
  clear hW1 h1 hR hS
  unfold HA.cs at *
  have hz := head_zero
  go_enter Try.func68, Try.ntmps68
  go_upto_region 1 with (fail)
  rw [← HW1.out]
  clear HW1
  have K1 := H1.out.2.2.1
  go_wp2_with (have _h := K1; refine wpList_loadq rfl 36 (.tmp 2) rfl (w.heap.size) [.int .i64 h.id, .int .i64 h.vw.size, .int .i64 h.obj, .int .i64 h.seq, .slice h.S h.sn.length h.cs', .bool h.vw.on, .bool h.vw.good, .slice h.vw.M h.vw.row.length h.vw.cm, .string (strOf h.vw.par), .int .i64 h.vw.ps, .int .i64 h.vw.ov, .int .i64 h.ow, .int .i64 h.it, .int .i64 h.tg] _ rfl K1 Try.underlying36 rfl (by kernel_rfl) ?_; clear _h K1)
  refine HCH.out.mono ?_
  rintro e w2 ⟨f2, h2⟩
  have b2 : Below W1.heap.size W1 w2 := f2.below
  have HB2 : Hid (Below w.heap.size w w2) := Lib.hid (H1.out.1.trans (b2.mono H1.out.1.size))
  clear b2 f2 HCH
  rcases h2 with ⟨hB, rfl⟩ | ⟨hB, k, rfl, hk0, hpe⟩ | ⟨hB, q, rfl, hqN, hpo⟩
  · have HH := Lib.hid hB
    clear hB
    simp only [errV, Z14]
    go_wp2
    go_ret
    exact ⟨HB2.out.alloc HB2.out.size _, .inl ⟨HH.out, rfl⟩⟩
  · obtain ⟨ho, rfl⟩ := hpe
    have HH := Lib.hid (And.intro hB ho)
    clear hB ho hk0
    simp only [errV, Z14]
    go_wp2
    go_ret
    exact ⟨HB2.out.alloc HB2.out.size _, .inr (.inl ⟨HH.out.1, HH.out.2, rfl⟩)⟩
  · have HH := Lib.hid (And.intro hB hpo)
    clear hB hqN hpo
    unfold HA.cs
    go_wp2
    go_ret
    exact ⟨HB2.out.alloc HB2.out.size _, .inr (.inr ⟨HH.out.1, HH.out.2.1, rfl⟩)⟩
end Go.Proofs.Ytiimanoloedbeaa

/-
  Snapshots of a copy: what changeSnap, Protect and Unprotect do. Conditions: the copy is the call's own.
-/
namespace Go.Proofs.Ytiimanoloedbeaa
open Go.RowKit Go.BigFrame
set_option linter.unusedSimpArgs false
set_option linter.unusedVariables false
set_option maxRecDepth 100000
/-- one cell of a row of the call's own is stored -/
theorem wpList_setrow {P : Program} {ops : Array Oper} {rest : List Oper} {o : Oper} {a : Act} {w : World} {Q : Exit → Act → World → Prop} (hgd : o.guard = none) (ty : TypeId) (x y : Operand) (ho : o.op = .store ty x y)
    (g j : Nat) (e : TypeId) (base size m c : Nat) (xs : List Value) (v : Value) (hx : a.eval x = .pointer (some ⟨g, j, none⟩)) (hy : a.eval y = v) (hO : w.ownsRow base e size (.slice (some ⟨g, 0, none⟩) m c) m xs) (hj : j < xs.length) (hi : (P.info? ty).map (·.size) = some 1) (h1 : v.oneCell' = true)
    (h : ∀ w', w'.ownsRow base e size (.slice (some ⟨g, 0, none⟩) m c) m (xs.set j v) → Only [g] w w' → w'.heap.size = w.heap.size → wpList P ops Q rest (a.put o.dst undef) w') : wpList P ops Q (o :: rest) a w := by
  have hth : w.there g j 1 := by
    rcases hO.2 with ⟨e1, _⟩ | ⟨g', cap, cur, hv, hbg, hg, hnc, hcm, hcs, htake⟩
    · cases e1
    · injection hv with e1 e2 e3
      injection e1 with e1
      injection e1 with e1
      subst e1
      have hb : Blk w g e cur := hg
      refine hb.there ?_
      have : xs.length ≤ cur.size := by rw [hO.1, hcs]; exact Nat.mul_le_mul_right _ hnc
      omega
  refine wpList_plain hgd fun _ hK => ?_
  unfold Oper.wp execOp
  simp only [ho, hx, hy, Instr.storeAt, Instr.sureAddr, Sem.run_bind, Sem.run_pure, Result.andThen_ok, run_store_cell w g j ty v hth hi h1]
  exact hK _ _ (h _ (own_set hO j v) ((Only.refl _ _).setCell (.inl (by simp)) _) (by simp [World.setCell]))
/-- a snapshot of a copy, changed but for its rows -/
theorem flat_set_at (l : List SA) (k j : Nat) (s s' : SA) (v : Value) (hs : l[k]? = some s) (hj : j < 11) (h : s'.cells = s.cells.set j v) : (l.flatMap SA.cells).set (k * 11 + j) v = (l.set k s').flatMap SA.cells := by
  have hlt := (List.getElem?_eq_some_iff.1 hs).1
  have e : l = l.take k ++ s :: l.drop (k + 1) := by
    have h2 := (List.getElem?_eq_some_iff.1 hs).2
    rw [← h2, ← List.drop_eq_getElem_cons hlt, List.take_append_drop]
  have hl : (l.take k).length = k := by rw [List.length_take]; omega
  have e2 : l.set k s' = l.take k ++ s' :: l.drop (k + 1) := by
    rw [List.set_eq_take_append_cons_drop, if_pos hlt]
  rw [e2]
  have := flat_set_mid (d := l.take k) (r := l.drop (k + 1)) hj h
  rw [hl] at this
  exact (congrArg (fun m : List SA => (m.flatMap SA.cells).set (k * 11 + j) v) e).trans this
theorem mem_set {l : List SA} {k : Nat} {s' x : SA} (h : x ∈ l.set k s') : x = s' ∨ x ∈ l := by
  rcases List.mem_or_eq_of_mem_set h with h | h
  · exact .inr h
  · exact .inl h
def HdV.setSn (v : HdV) (k : Nat) (s : SnV) : HdV := { v with sn := v.sn.set k s }
/-- behind a store to one cell of a snapshot of the copy -/
theorem does_sn {W W1 w' : World} {base g gS k j : Nat} {c : HA} {s s' : SA} {v : Value} {PE : Nat → World → Prop} {PO : HdV → World → Prop} (hb : base ≤ W.heap.size) (kg : Blk W g 36 c.cs) (hW : Below W.heap.size W W1) (o : Only [gS] W1 w') (hN : c.N W base []) (hS : c.S = some ⟨gS, 0, none⟩) (hs : c.sn[k]? = some s)
    (ho : w'.ownsRow base 66 11 (.slice (some ⟨gS, 0, none⟩) c.sn.length c.cs') c.sn.length ((c.sn.flatMap SA.cells).set (k * 11 + j) v)) (hj : j < 11) (hc : s'.cells = s.cells.set j v) (hn : ∀ w, s.N w base [] → s'.N w base [])
    (po : PO (c.v.setSn k s'.v) w') : w'.heap[g]? = W.heap[g]? ∧ DoesTo base [] g PE PO W (.returned .nilIface) w' := by
  have hN1 := hN.below hW
  obtain ⟨cs, kS⟩ := own_ty hN1.own (k := gS) (by rw [hS]; simp [rowOf, Value.ownBlock])
  have hge : base ≤ gS := (World.ownsRow.lt hN1.own gS (by rw [hS]; rfl)).1
  have st := stay_only kS (by decide) (by decide) o
  have hW' : Below base W w' := (hW.mono hb).trans (o.below (fun x hx => by simp at hx; omega) (Nat.le_trans hb hW.size))
  have kg1 : Blk W1 g 36 c.cs := kg.of (hW.block _ kg.lt)
  have kg' : Blk w' g 36 c.cs := kg1.only o (by intro hx; simp at hx; subst hx; exact kg1.ne_ kS (by decide) rfl)
  have hl : (c.sn.set k s').length = c.sn.length := by simp
  have hgb : w'.heap[g]? = W.heap[g]? := (o.block g kg1.lt (by intro hx; simp at hx; subst hx; exact kg1.ne_ kS (by decide) rfl)).trans (hW.block _ kg.lt)
  refine ⟨hgb, Frm.of hW', .inr ⟨rfl, { c with sn := c.sn.set k s' }, ?_, ⟨hN1.vw.stay st, fun x hx => ?_, ?_, hN.id, hN.obj, hN.seq, hN.ow, hN.it, hN.tg⟩, ?_⟩⟩
  · unfold HA.cs
    simp only [hl]
    exact kg'
  · rcases mem_set hx with rfl | hx
    · exact hn _ ((hN1.sn s (List.mem_of_getElem? hs)).stay st)
    · exact (hN1.sn x hx).stay st
  · show w'.ownsRow base 66 11 (.slice c.S (c.sn.set k s').length c.cs') (c.sn.set k s').length _
    rw [hl, hS, ← flat_set_at c.sn k j s s' v hs hj hc]
    exact ho
  · have : (HA.v { c with sn := c.sn.set k s' }) = c.v.setSn k s'.v := by
      unfold HA.v HdV.setSn
      simp only [List.map_set]
    rw [this]
    exact po
/-- what is asked of a change of one snapshot -/
def SnDoes (fn : Nat) (caps : Array Value) (F : List Nat) (h : HdV) (base : Nat) (W0 : World) (PE : SnV → Nat → World → Prop) (PO : Nat → SnV → HdV → World → Prop) : Prop :=
  ∀ (W : World) (g gS k : Nat) (c : HA) (s : SA), Below W0.heap.size W0 W → base ≤ W.heap.size → base ≤ g → Blk W g 36 c.cs → c.N W base [] → c.Dj → c.v = h → c.S = some ⟨gS, 0, none⟩ → c.sn[k]? = some s →
    Calls Try.prog fn (#[.pointer (some ⟨gS, k * 11, none⟩)] ++ caps) W (fun e w' => w'.heap[g]? = W.heap[g]? ∧ DoesTo base F g (PE s.v) (PO k s.v) W e w')
def ProE (it tg : Int) (s : SnV) (k : Nat) : Prop := (it = 3 ∧ tg = s.num ∧ k = 9) ∨ (¬ (it = 3 ∧ tg = s.num) ∧ s.prot = true ∧ k = 12)
def ProO (it tg : Int) (s : SnV) : Prop := ¬ (it = 3 ∧ tg = s.num) ∧ s.prot = false
set_option maxHeartbeats 16000000 in
theorem pro1_any (W : World) (base g gS gh k : Nat) (c : HA) (s : SA) (it tg : Int) (hb : base ≤ W.heap.size) (hg : base ≤ g) (kg : Blk W g 36 c.cs) (hN : c.N W base []) (hS : c.S = some ⟨gS, 0, none⟩) (hs : c.sn[k]? = some s) (k12 : W.cell? ⟨gh, 12, none⟩ = some (.int .i64 it)) (k13 : W.cell? ⟨gh, 13, none⟩ = some (.int .i64 tg)) :
    Calls Try.prog 117 #[.pointer (some ⟨gS, k * 11, none⟩), .pointer (some ⟨gh, 0, none⟩)] W (fun e w' => w'.heap[g]? = W.heap[g]? ∧ DoesTo base [] g (fun e _ => ProE it tg s.v e) (fun v _ => ProO it tg s.v ∧ v = c.v.setSn k { s.v with prot := true }) W e w') := by
  obtain ⟨gS', hS', -, -, hcl⟩ := sn_at hN hs
  obtain rfl : gS' = gS := by rw [hS] at hS'; injection hS' with h; injection h with h; exact h.symm
  have q0 : W.cell? ⟨gS', k * 11, none⟩ = some (.int .i64 s.num) := hcl 0 _ rfl
  have q5 : W.cell? ⟨gS', k * 11 + 5, none⟩ = some (.bool s.prot) := hcl 5 _ rfl
  have HOW : Hid (W.ownsRow base 66 11 (.slice (some ⟨gS', 0, none⟩) c.sn.length c.cs') c.sn.length (c.sn.flatMap SA.cells)) := Lib.hid (by rw [← hS]; exact hN.own)
  have hlt : k < c.sn.length := (List.getElem?_eq_some_iff.1 hs).1
  have HK := Lib.hid (And.intro hb (And.intro hg (And.intro kg (And.intro hN (And.intro hS hs)))))
  have HS : Hid (∀ n, Below base W (W.drewN n)) := Lib.hid fun n => ⟨rfl, rfl, rfl, Nat.le_refl _, fun _ _ => rfl⟩
  clear hcl hb hg kg hN hS hS' hs
  go_enter Try.func117, Try.ntmps117
  by_cases c1 : it = 3
  · have d1 : (it == 3) = true := by simpa using c1
    by_cases c2 : tg = s.num
    · have d2 : (tg == s.num) = true := by simpa using c2
      have HC := Lib.hid (And.intro c1 c2)
      clear c1 c2
      go_upto_region 1 with (fail)
      go_quiet (fail)
      go_wp2
      go_ret
      exact ⟨rfl, Frm.of (HS.out nq), .inl ⟨9, rfl, by omega, .inl ⟨HC.out.1, HC.out.2, rfl⟩⟩⟩
    have d2 : (tg == s.num) = false := by simpa using c2
    have HNO : Hid (¬ (it = 3 ∧ tg = s.num)) := Lib.hid fun h => c2 h.2
    clear c1 c2
    cases hp : s.prot with
    | true =>
      have HP := Lib.hid hp
      rw [hp] at q5
      clear hp
      go_upto_region 1 with (fail)
      go_quiet (fail)
      go_wp2
      go_ret
      exact ⟨rfl, Frm.of (HS.out nq), .inl ⟨12, rfl, by omega, .inr ⟨HNO.out, HP.out, rfl⟩⟩⟩
    | false =>
      have HP := Lib.hid hp
      rw [hp] at q5
      clear hp
      go_upto_region 1 with (fail)
      go_quiet (fail)
      have HOQ : Hid ((W.drewN nq).ownsRow base 66 11 (.slice (some ⟨gS', 0, none⟩) c.sn.length c.cs') c.sn.length (c.sn.flatMap SA.cells)) := HOW
      go_wp2_with (have _h := HOQ; refine wpList_setrow rfl 4 (.tmp 24) (.const (.bool true)) rfl gS' (k * 11 + 5) 66 base 11 c.sn.length c.cs' (c.sn.flatMap SA.cells) (.bool true) rfl rfl HOQ.out (by rw [flat_len11]; omega) (by kernel_rfl) rfl ?_; clear _h HOQ; intro w9 K9 o9 s9)
      go_ret
      exact does_sn (s' := { s with prot := true }) HK.out.1 HK.out.2.2.1 (W1 := W.drewN nq) ⟨rfl, rfl, rfl, Nat.le_refl _, fun _ _ => rfl⟩ o9 HK.out.2.2.2.1 HK.out.2.2.2.2.1 HK.out.2.2.2.2.2 K9 (by omega) rfl (fun w h => ⟨h.vw, h.own, h.far, h.ok, h.name, h.num, h.nl⟩) ⟨⟨HNO.out, HP.out⟩, rfl⟩
  · have d1 : (it == 3) = false := by simpa using c1
    have HNO : Hid (¬ (it = 3 ∧ tg = s.num)) := Lib.hid fun h => c1 h.1
    clear c1
    cases hp : s.prot with
    | true =>
      have HP := Lib.hid hp
      rw [hp] at q5
      clear hp
      go_upto_region 1 with (fail)
      go_quiet (fail)
      go_wp2
      go_ret
      exact ⟨rfl, Frm.of (HS.out nq), .inl ⟨12, rfl, by omega, .inr ⟨HNO.out, HP.out, rfl⟩⟩⟩
    | false =>
      have HP := Lib.hid hp
      rw [hp] at q5
      clear hp
      go_upto_region 1 with (fail)
      go_quiet (fail)
      have HOQ : Hid ((W.drewN nq).ownsRow base 66 11 (.slice (some ⟨gS', 0, none⟩) c.sn.length c.cs') c.sn.length (c.sn.flatMap SA.cells)) := HOW
      go_wp2_with (have _h := HOQ; refine wpList_setrow rfl 4 (.tmp 24) (.const (.bool true)) rfl gS' (k * 11 + 5) 66 base 11 c.sn.length c.cs' (c.sn.flatMap SA.cells) (.bool true) rfl rfl HOQ.out (by rw [flat_len11]; omega) (by kernel_rfl) rfl ?_; clear _h HOQ; intro w9 K9 o9 s9)
      go_ret
      exact does_sn (s' := { s with prot := true }) HK.out.1 HK.out.2.2.1 (W1 := W.drewN nq) ⟨rfl, rfl, rfl, Nat.le_refl _, fun _ _ => rfl⟩ o9 HK.out.2.2.2.1 HK.out.2.2.2.2.1 HK.out.2.2.2.2.2 K9 (by omega) rfl (fun w h => ⟨h.vw, h.own, h.far, h.ok, h.name, h.num, h.nl⟩) ⟨⟨HNO.out, HP.out⟩, rfl⟩
end Go.Proofs.Ytiimanoloedbeaa

/-
  Snapshots of a copy: what Unprotect does, and changeSnap with any change. Conditions: the copy is the call's own.
-/
namespace Go.Proofs.Ytiimanoloedbeaa
open Go.RowKit Go.BigFrame
set_option linter.unusedSimpArgs false
set_option linter.unusedVariables false
set_option maxRecDepth 100000
def UnpE (s : SnV) (k : Nat) : Prop := (s.prot = false ∧ k = 13) ∨ (s.prot = true ∧ s.ch ≠ [] ∧ k = 9)
def UnpO (s : SnV) : Prop := s.prot = true ∧ s.ch = []
set_option maxHeartbeats 16000000 in
theorem unp1_any (W : World) (base g gS k : Nat) (c : HA) (s : SA) (hb : base ≤ W.heap.size) (hg : base ≤ g) (kg : Blk W g 36 c.cs) (hN : c.N W base []) (hS : c.S = some ⟨gS, 0, none⟩) (hs : c.sn[k]? = some s) :
    Calls Try.prog 118 #[.pointer (some ⟨gS, k * 11, none⟩)] W (fun e w' => w'.heap[g]? = W.heap[g]? ∧ DoesTo base [] g (fun e _ => UnpE s.v e) (fun v _ => UnpO s.v ∧ v = c.v.setSn k { s.v with prot := false }) W e w') := by
  obtain ⟨gS', hS', -, -, hcl⟩ := sn_at hN hs
  obtain rfl : gS' = gS := by rw [hS] at hS'; injection hS' with h; injection h with h; exact h.symm
  have q5 : W.cell? ⟨gS', k * 11 + 5, none⟩ = some (.bool s.prot) := hcl 5 _ rfl
  obtain ⟨m, hm⟩ : ∃ m, m = s.ch.length := ⟨_, rfl⟩
  have q10 : W.cell? ⟨gS', k * 11 + 10, none⟩ = some (.slice s.C s.ch.length s.cc) := hcl 10 _ rfl
  rw [← hm] at q10
  have HM := Lib.hid hm
  clear hm
  have HOW : Hid (W.ownsRow base 66 11 (.slice (some ⟨gS', 0, none⟩) c.sn.length c.cs') c.sn.length (c.sn.flatMap SA.cells)) := Lib.hid (by rw [← hS]; exact hN.own)
  have hlt : k < c.sn.length := (List.getElem?_eq_some_iff.1 hs).1
  have HK := Lib.hid (And.intro hb (And.intro hg (And.intro kg (And.intro hN (And.intro hS hs)))))
  clear hcl hb hg kg hN hS hS' hs
  go_enter Try.func118, Try.ntmps118
  cases hp : s.prot with
  | false =>
    have HP := Lib.hid hp
    rw [hp] at q5
    clear hp
    go_wp2
    go_ret
    exact ⟨rfl, Frm.of (Below.refl _ _), .inl ⟨13, rfl, by omega, .inl ⟨HP.out, rfl⟩⟩⟩
  | true =>
    have HP := Lib.hid hp
    rw [hp] at q5
    clear hp
    by_cases c1 : 0 < m
    · have d1 : decide (0 < m) = true := decide_eq_true c1
      have HC : Hid (s.v.ch ≠ []) := Lib.hid fun h => by have : s.ch = [] := h; have h2 := HM.out; rw [this] at h2; simp at h2; omega
      clear c1
      go_wp2
      go_ret
      exact ⟨rfl, Frm.of (Below.refl _ _), .inl ⟨9, rfl, by omega, .inr ⟨HP.out, HC.out, rfl⟩⟩⟩
    · have d1 : decide (0 < m) = false := decide_eq_false c1
      have HC : Hid (s.v.ch = []) := Lib.hid (List.length_eq_zero_iff.1 (by show s.ch.length = 0; have := HM.out; omega))
      clear c1
      go_wp2_with (have _h := HOW; refine wpList_setrow rfl 4 (.tmp 18) (.const (.bool false)) rfl gS' (k * 11 + 5) 66 base 11 c.sn.length c.cs' (c.sn.flatMap SA.cells) (.bool false) rfl rfl HOW.out (by rw [flat_len11]; omega) (by kernel_rfl) rfl ?_; clear _h HOW; intro w9 K9 o9 s9)
      go_ret
      exact does_sn (s' := { s with prot := false }) HK.out.1 HK.out.2.2.1 (Below.refl _ _) o9 HK.out.2.2.2.1 HK.out.2.2.2.2.1 HK.out.2.2.2.2.2 K9 (by omega) rfl (fun w h => ⟨h.vw, h.own, h.far, h.ok, h.name, h.num, h.nl⟩) ⟨⟨HP.out, HC.out⟩, rfl⟩
/-- where a name stands -/
def idxS (v : HdV) (n : List Nat) : Int := idxI (fun s : SnV => decide (s.name = n)) v.sn
theorem idxS_own (c : HA) (n : List Nat) : idxS c.v n = idxI (fun s : SA => decide (s.name = n)) c.sn := idx_map SA.v (fun s => decide (s.name = n)) c.sn
/-- a change of the snapshot of a name: what goes wrong, what comes of it -/
def ChsE (v : HdV) (n : List Nat) (PE : SnV → Nat → World → Prop) (k : Nat) (w : World) : Prop := (idxS v n < 0 ∧ k = 6) ∨ ∃ (i : Nat) (s : SnV), idxS v n = i ∧ v.sn[i]? = some s ∧ PE s k w
def ChsO (v : HdV) (n : List Nat) (PO : Nat → SnV → HdV → World → Prop) (v' : HdV) (w : World) : Prop := ∃ (i : Nat) (s : SnV), idxS v n = i ∧ v.sn[i]? = some s ∧ PO i s v' w
set_option maxHeartbeats 16000000 in
theorem chs1_any (W W0 : World) (base g gn gd fn : Nat) (hEN : Enters Try.prog fn) (caps : Array Value) (F : List Nat) (n : List Nat) (c : HA) (PE : SnV → Nat → World → Prop) (PO : Nat → SnV → HdV → World → Prop) (hb : base ≤ W.heap.size) (h0 : Below W0.heap.size W0 W) (hg : base ≤ g) (k : Blk W g 36 c.cs) (hN : c.N W base []) (hdj : c.Dj) (hc : c.sn.length ≤ 1000) (hn : ∀ b ∈ n, b < 256) (hgn : gn < base) (hgd : gd < base) (hFd : gd ∉ F)
    (kn : W.cell? ⟨gn, 0, none⟩ = some (.string (strOf n))) (kd : W.cell? ⟨gd, 0, none⟩ = some (.func (.func fn) #[] caps)) (HD : SnDoes fn caps F c.v base W0 PE PO) :
    Calls Try.prog 152 #[.pointer (some ⟨g, 0, none⟩), .pointer (some ⟨gn, 0, none⟩), .pointer (some ⟨gd, 0, none⟩)] W (DoesTo base F g (ChsE c.v n PE) (ChsO c.v n PO) W) := by
  obtain ⟨ix, hix⟩ : ∃ ix, ix = idxI (fun s : SA => decide (s.name = n)) c.sn := ⟨_, rfl⟩
  have HFN : Hid (∀ W', Below W.heap.size W W' → Calls Try.prog 114 #[.agg #[.int .i64 c.id, .int .i64 c.vw.size, .int .i64 c.obj, .int .i64 c.seq, .slice c.S c.sn.length c.cs', .bool c.vw.on, .bool c.vw.good, .slice c.vw.M c.vw.row.length c.vw.cm, .string (strOf c.vw.par), .int .i64 c.vw.ps, .int .i64 c.vw.ov, .int .i64 c.ow, .int .i64 c.it, .int .i64 c.tg], .string (strOf n)] W' fun e w' => e = .returned (.int .i64 ix) ∧ Below W'.heap.size W' w') := Lib.hid fun W' hW' => by rw [hix]; exact find_any c n hn W' (hN.R.since hW') (by omega)
  have HIX : Hid (idxS c.v n = ix) := Lib.hid (by rw [idxS_own, hix])
  have HAT : Hid (0 ≤ ix → ∃ (i : Nat) (s : SA), ix = i ∧ c.sn[i]? = some s) := Lib.hid fun h => by
    obtain ⟨i, s, e, hs, -⟩ := idx_at _ c.sn (hix ▸ h)
    exact ⟨i, s, hix.trans e, hs⟩
  have HB1 : Hid (∀ W', Below W.heap.size W W' → Blk W' g 36 #[.int .i64 c.id, .int .i64 c.vw.size, .int .i64 c.obj, .int .i64 c.seq, .slice c.S c.sn.length c.cs', .bool c.vw.on, .bool c.vw.good, .slice c.vw.M c.vw.row.length c.vw.cm, .string (strOf c.vw.par), .int .i64 c.vw.ps, .int .i64 c.vw.ov, .int .i64 c.ow, .int .i64 c.it, .int .i64 c.tg]) := Lib.hid fun W' hW' => by
    have k1 : Blk W g 36 #[.int .i64 c.id, .int .i64 c.vw.size, .int .i64 c.obj, .int .i64 c.seq, .slice c.S c.sn.length c.cs', .bool c.vw.on, .bool c.vw.good, .slice c.vw.M c.vw.row.length c.vw.cm, .string (strOf c.vw.par), .int .i64 c.vw.ps, .int .i64 c.vw.ov, .int .i64 c.ow, .int .i64 c.it, .int .i64 c.tg] := k
    exact k1.of (hW'.block _ k.lt)
  have HKN : Hid (∀ W', Below W.heap.size W W' → W'.cell? ⟨gn, 0, none⟩ = some (.string (strOf n))) := Lib.hid fun W' hW' => (hW'.cell (by show gn < _; omega)).trans kn
  have HKD : Hid (∀ W', Below W.heap.size W W' → W'.cell? ⟨gd, 0, none⟩ = some (.func (.func fn) #[] caps)) := Lib.hid fun W' hW' => (hW'.cell (by show gd < _; omega)).trans kd
  have HK := Lib.hid (And.intro k (And.intro hN (And.intro hb (And.intro hg (And.intro h0 hc)))))
  have HEN := Lib.hid hEN
  have HGD := Lib.hid (And.intro hgd hFd)
  have HDD := Lib.hid HD
  have HDJ := Lib.hid hdj
  clear hix kn kd k hN hb hg h0 hn hgn hgd hEN HD hFd hdj
  go_enter Try.func152, Try.ntmps152
  go_upto_region 1 with (fail)
  have hS : Below W.heap.size W W.drew := (Below.refl _ W).drew
  refine any_beginL (fun W' => Below W.heap.size W W') 99 (by kernel_rfl) ?_
  refine S_take (i := 0) (v := .pointer (some ⟨g, 0, none⟩)) rfl rfl (by kernel_rfl) (by kernel_rfl) (by kernel_rfl) (fun _ _ _ h => h) (Or.inl ⟨by rfl, fun W hw => by go_simp⟩) hS ?_
  simp only [Act.put, List.getElem_toArray, List.getElem_cons_succ, List.getElem_cons_zero, List.setIfInBounds_toArray, List.set_cons_zero, List.set_cons_succ]
  refine S_take (i := 1) (v := .pointer (some ⟨g, 0, none⟩)) rfl rfl (by kernel_rfl) (by kernel_rfl) (by kernel_rfl) (fun _ _ _ h => h) (Or.inl ⟨by rfl, fun W hw => by go_simp⟩) hS ?_
  simp only [Act.put, List.getElem_toArray, List.getElem_cons_succ, List.getElem_cons_zero, List.setIfInBounds_toArray, List.set_cons_zero, List.set_cons_succ]
  refine S_take (i := 2) (v := .agg #[.int .i64 c.id, .int .i64 c.vw.size, .int .i64 c.obj, .int .i64 c.seq, .slice c.S c.sn.length c.cs', .bool c.vw.on, .bool c.vw.good, .slice c.vw.M c.vw.row.length c.vw.cm, .string (strOf c.vw.par), .int .i64 c.vw.ps, .int .i64 c.vw.ov, .int .i64 c.ow, .int .i64 c.it, .int .i64 c.tg]) rfl rfl (by kernel_rfl) (by kernel_rfl) (by kernel_rfl) (fun _ _ _ h => h) (Or.inl ⟨by rfl, fun W hw => by have k0 : W.cell? ⟨g, 0, none⟩ = some (.int .i64 c.id) := (HB1.out W hw).cell 0; have k1 : W.cell? ⟨g, 1, none⟩ = some (.int .i64 c.vw.size) := (HB1.out W hw).cell 1; have k2 : W.cell? ⟨g, 2, none⟩ = some (.int .i64 c.obj) := (HB1.out W hw).cell 2; have k3 : W.cell? ⟨g, 3, none⟩ = some (.int .i64 c.seq) := (HB1.out W hw).cell 3; have k4 : W.cell? ⟨g, 4, none⟩ = some (.slice c.S c.sn.length c.cs') := (HB1.out W hw).cell 4; have k5 : W.cell? ⟨g, 5, none⟩ = some (.bool c.vw.on) := (HB1.out W hw).cell 5; have k6 : W.cell? ⟨g, 6, none⟩ = some (.bool c.vw.good) := (HB1.out W hw).cell 6; have k7 : W.cell? ⟨g, 7, none⟩ = some (.slice c.vw.M c.vw.row.length c.vw.cm) := (HB1.out W hw).cell 7; have k8 : W.cell? ⟨g, 8, none⟩ = some (.string (strOf c.vw.par)) := (HB1.out W hw).cell 8; have k9 : W.cell? ⟨g, 9, none⟩ = some (.int .i64 c.vw.ps) := (HB1.out W hw).cell 9; have k10 : W.cell? ⟨g, 10, none⟩ = some (.int .i64 c.vw.ov) := (HB1.out W hw).cell 10; have k11 : W.cell? ⟨g, 11, none⟩ = some (.int .i64 c.ow) := (HB1.out W hw).cell 11; have k12 : W.cell? ⟨g, 12, none⟩ = some (.int .i64 c.it) := (HB1.out W hw).cell 12; have k13 : W.cell? ⟨g, 13, none⟩ = some (.int .i64 c.tg) := (HB1.out W hw).cell 13; go_simp⟩) hS ?_
  simp only [Act.put, List.getElem_toArray, List.getElem_cons_succ, List.getElem_cons_zero, List.setIfInBounds_toArray, List.set_cons_zero, List.set_cons_succ]
  refine S_take (i := 3) (v := .string (strOf n)) rfl rfl (by kernel_rfl) (by kernel_rfl) (by kernel_rfl) (fun _ _ _ h => h) (Or.inl ⟨by rfl, fun W hw => by have k1 := HKN.out W hw; go_simp⟩) hS ?_
  simp only [Act.put, List.getElem_toArray, List.getElem_cons_succ, List.getElem_cons_zero, List.setIfInBounds_toArray, List.set_cons_zero, List.set_cons_succ]
  refine L_one (j := 4) (by kernel_rfl) rfl (by rfl) ?_
  simp only [Act.put, List.getElem_toArray, List.getElem_cons_succ, List.getElem_cons_zero, List.setIfInBounds_toArray, List.set_cons_zero, List.set_cons_succ]
  refine wp_called (by go_simp) (HFN.out _ hS) ?_
  rintro e W4 ⟨rfl, b⟩
  have hS : Below W.heap.size W W4 := hS.trans (b.mono hS.size)
  clear b
  refine ⟨_, rfl, hS, ?_⟩
  simp only [Act.put, List.getElem_toArray, List.getElem_cons_succ, List.getElem_cons_zero, List.setIfInBounds_toArray, List.set_cons_zero, List.set_cons_succ]
  refine S_take (i := 5) (v := .int .i64 ix) rfl rfl (by kernel_rfl) (by kernel_rfl) (by kernel_rfl) (fun _ _ _ h => h) (Or.inl ⟨by rfl, fun W hw => by go_simp⟩) hS ?_
  simp only [Act.put, List.getElem_toArray, List.getElem_cons_succ, List.getElem_cons_zero, List.setIfInBounds_toArray, List.set_cons_zero, List.set_cons_succ]
  refine L_done (by kernel_rfl) ?_
  refine NoPanic.normal ?_
  have HS1 := Lib.hid hS
  clear hS
  by_cases c1 : ix < 0
  · have d1 : decide (ix < 0) = true := decide_eq_true c1
    have HC := Lib.hid c1
    clear c1
    go_wp2
    go_ret
    exact ⟨Frm.of (HS1.out.mono HK.out.2.2.1), .inl ⟨6, rfl, by omega, .inl ⟨by rw [HIX.out]; exact HC.out, rfl⟩⟩⟩
  have d1 : decide (ix < 0) = false := decide_eq_false c1
  obtain ⟨i, s, rfl, hs⟩ := HAT.out (by omega)
  clear c1
  have hlt : i < c.sn.length := (List.getElem?_eq_some_iff.1 hs).1
  obtain ⟨gS, hSg, -, -, -⟩ := sn_at HK.out.2.1 hs
  have HSG := Lib.hid (And.intro hSg hs)
  have hcn := HK.out.2.2.2.2.2
  clear hs
  go_upto_region 4 with (fail)
  have HB4 : Hid (Blk (W4.drew) g 36 #[.int .i64 c.id, .int .i64 c.vw.size, .int .i64 c.obj, .int .i64 c.seq, .slice (some ⟨gS, 0, none⟩) c.sn.length c.cs', .bool c.vw.on, .bool c.vw.good, .slice c.vw.M c.vw.row.length c.vw.cm, .string (strOf c.vw.par), .int .i64 c.vw.ps, .int .i64 c.vw.ov, .int .i64 c.ow, .int .i64 c.it, .int .i64 c.tg]) := Lib.hid (by
    have := HB1.out _ HS1.out.drew
    rw [hSg] at this
    exact this)
  have HZ4 := Lib.hid (HS1.out.drew)
  have hS : Blk (W4.drew) g 36 #[.int .i64 c.id, .int .i64 c.vw.size, .int .i64 c.obj, .int .i64 c.seq, .slice (some ⟨gS, 0, none⟩) c.sn.length c.cs', .bool c.vw.on, .bool c.vw.good, .slice c.vw.M c.vw.row.length c.vw.cm, .string (strOf c.vw.par), .int .i64 c.vw.ps, .int .i64 c.vw.ov, .int .i64 c.ow, .int .i64 c.it, .int .i64 c.tg] ∧ (W4.drew).cell? ⟨gd, 0, none⟩ = some (.func (.func fn) #[] caps) := ⟨HB4.out, HKD.out _ HZ4.out⟩
  clear hSg
  refine any_beginL (fun W' => Blk W' g 36 #[.int .i64 c.id, .int .i64 c.vw.size, .int .i64 c.obj, .int .i64 c.seq, .slice (some ⟨gS, 0, none⟩) c.sn.length c.cs', .bool c.vw.on, .bool c.vw.good, .slice c.vw.M c.vw.row.length c.vw.cm, .string (strOf c.vw.par), .int .i64 c.vw.ps, .int .i64 c.vw.ov, .int .i64 c.ow, .int .i64 c.it, .int .i64 c.tg] ∧ W'.cell? ⟨gd, 0, none⟩ = some (.func (.func fn) #[] caps)) 99 (by kernel_rfl) ?_
  refine S_take (i := 0) (v := .func (.func fn) #[] caps) rfl rfl (by kernel_rfl) (by kernel_rfl) (by kernel_rfl) (fun _ _ _ h => h) (Or.inl ⟨by rfl, fun W' hw => by have k1 := hw.2; go_simp⟩) hS ?_
  simp only [Act.put, List.getElem_toArray, List.getElem_cons_succ, List.getElem_cons_zero, List.setIfInBounds_toArray, List.set_cons_zero, List.set_cons_succ]
  refine S_take (i := 1) (v := .pointer (some ⟨g, 0, none⟩)) rfl rfl (by kernel_rfl) (by kernel_rfl) (by kernel_rfl) (fun _ _ _ h => h) (Or.inl ⟨by rfl, fun W' hw => by go_simp⟩) hS ?_
  simp only [Act.put, List.getElem_toArray, List.getElem_cons_succ, List.getElem_cons_zero, List.setIfInBounds_toArray, List.set_cons_zero, List.set_cons_succ]
  refine S_take (i := 2) (v := .pointer (some ⟨g, 0, none⟩)) rfl rfl (by kernel_rfl) (by kernel_rfl) (by kernel_rfl) (fun _ _ _ h => h) (Or.inl ⟨by rfl, fun W' hw => by go_simp⟩) hS ?_
  simp only [Act.put, List.getElem_toArray, List.getElem_cons_succ, List.getElem_cons_zero, List.setIfInBounds_toArray, List.set_cons_zero, List.set_cons_succ]
  refine S_take (i := 3) (v := .pointer (some ⟨g, 4, none⟩)) rfl rfl (by kernel_rfl) (by kernel_rfl) (by kernel_rfl) (fun _ _ _ h => h) (Or.inl ⟨by rfl, fun W' hw => by go_simp⟩) hS ?_
  simp only [Act.put, List.getElem_toArray, List.getElem_cons_succ, List.getElem_cons_zero, List.setIfInBounds_toArray, List.set_cons_zero, List.set_cons_succ]
  refine S_take (i := 4) (v := .slice (some ⟨gS, 0, none⟩) c.sn.length c.cs') rfl rfl (by kernel_rfl) (by kernel_rfl) (by kernel_rfl) (fun _ _ _ h => h) (Or.inl ⟨by rfl, fun W' hw => by have k1 : W'.cell? ⟨g, 4, none⟩ = some (.slice (some ⟨gS, 0, none⟩) c.sn.length c.cs') := hw.1.cell 4; go_simp⟩) hS ?_
  simp only [Act.put, List.getElem_toArray, List.getElem_cons_succ, List.getElem_cons_zero, List.setIfInBounds_toArray, List.set_cons_zero, List.set_cons_succ]
  refine S_take (i := 5) (v := .int .i64 (i : Int)) rfl rfl (by kernel_rfl) (by kernel_rfl) (by kernel_rfl) (fun _ _ _ h => h) (Or.inl ⟨by rfl, fun W' hw => by go_simp⟩) hS ?_
  simp only [Act.put, List.getElem_toArray, List.getElem_cons_succ, List.getElem_cons_zero, List.setIfInBounds_toArray, List.set_cons_zero, List.set_cons_succ]
  refine S_take (i := 6) (v := .pointer (some ⟨gS, i * 11, none⟩)) rfl rfl (by kernel_rfl) (by kernel_rfl) (by kernel_rfl) (fun _ _ _ h => h) (Or.inl ⟨by rfl, fun W' hw => by go_simp⟩) hS ?_
  simp only [Act.put, List.getElem_toArray, List.getElem_cons_succ, List.getElem_cons_zero, List.setIfInBounds_toArray, List.set_cons_zero, List.set_cons_succ]
  refine L_one (j := 7) (by kernel_rfl) rfl (by rfl) ?_
  simp only [Act.put, List.getElem_toArray, List.getElem_cons_succ, List.getElem_cons_zero, List.setIfInBounds_toArray, List.set_cons_zero, List.set_cons_succ]
  have hN7 := HK.out.2.1.below HZ4.out
  have kg7 : Blk _ g 36 c.cs := HK.out.1.of (HZ4.out.block _ HK.out.1.lt)
  have HCL := HDD.out _ g gS i c s (HK.out.2.2.2.2.1.trans (HZ4.out.mono HK.out.2.2.2.2.1.size)) (Nat.le_trans HK.out.2.2.1 HZ4.out.size) HK.out.2.2.2.1 kg7 hN7 HDJ.out rfl HSG.out.1 HSG.out.2
  refine wp_called (run_callv HEN.out (args := #[.pointer (some ⟨gS, i * 11, none⟩)]) rfl rfl (Array.toList_inj.1 (by rw [Array.toList_map]; rfl))) HCL ?_
  rintro e w9 ⟨g9, f9, h9⟩
  have HF9 : Hid (Frm base F W w9) := Lib.hid ((Frm.of (HZ4.out.mono HK.out.2.2.1)).trans f9)
  have HV : Hid (c.v.sn[i]? = some s.v) := Lib.hid (by show (c.sn.map SA.v)[i]? = _; rw [List.getElem?_map, HSG.out.2]; rfl)
  have hS : Blk w9 g 36 #[.int .i64 c.id, .int .i64 c.vw.size, .int .i64 c.obj, .int .i64 c.seq, .slice (some ⟨gS, 0, none⟩) c.sn.length c.cs', .bool c.vw.on, .bool c.vw.good, .slice c.vw.M c.vw.row.length c.vw.cm, .string (strOf c.vw.par), .int .i64 c.vw.ps, .int .i64 c.vw.ov, .int .i64 c.ow, .int .i64 c.it, .int .i64 c.tg] ∧ w9.cell? ⟨gd, 0, none⟩ = some (.func (.func fn) #[] caps) := ⟨HB4.out.of g9, (World.cell?_of_block (a := ⟨gd, 0, none⟩) (f9.block gd HGD.out.1 HGD.out.2)).trans hS.2⟩
  clear f9 g9 HCL hN7 kg7
  rcases h9 with ⟨e9, rfl, hk9, hpe⟩ | ⟨rfl, c9, k9, n9, po⟩
  · have HE := Lib.hid (And.intro hk9 hpe)
    clear hk9 hpe
    refine ⟨_, rfl, hS, ?_⟩
    simp only [Act.put, List.getElem_toArray, List.getElem_cons_succ, List.getElem_cons_zero, List.setIfInBounds_toArray, List.set_cons_zero, List.set_cons_succ]
    refine S_take (i := 8) (v := errV e9) rfl rfl (by kernel_rfl) (by kernel_rfl) (by kernel_rfl) (fun _ _ _ h => h) (Or.inl ⟨by rfl, fun W' hw => by go_simp⟩) hS ?_
    simp only [Act.put, List.getElem_toArray, List.getElem_cons_succ, List.getElem_cons_zero, List.setIfInBounds_toArray, List.set_cons_zero, List.set_cons_succ]
    refine L_done (by kernel_rfl) ?_
    refine NoPanic.normal ?_
    clear hS
    go_wp2
    go_ret
    exact ⟨HF9.out, .inl ⟨e9, rfl, HE.out.1, .inr ⟨i, s.v, HIX.out, HV.out, HE.out.2⟩⟩⟩
  · have HE := Lib.hid (And.intro k9 (And.intro n9 po))
    clear k9 n9 po
    refine ⟨_, rfl, hS, ?_⟩
    simp only [Act.put, List.getElem_toArray, List.getElem_cons_succ, List.getElem_cons_zero, List.setIfInBounds_toArray, List.set_cons_zero, List.set_cons_succ]
    refine S_take (i := 8) (v := .nilIface) rfl rfl (by kernel_rfl) (by kernel_rfl) (by kernel_rfl) (fun _ _ _ h => h) (Or.inl ⟨by rfl, fun W' hw => by go_simp⟩) hS ?_
    simp only [Act.put, List.getElem_toArray, List.getElem_cons_succ, List.getElem_cons_zero, List.setIfInBounds_toArray, List.set_cons_zero, List.set_cons_succ]
    refine L_done (by kernel_rfl) ?_
    refine NoPanic.normal ?_
    clear hS
    go_wp2
    go_ret
    exact ⟨HF9.out, .inr ⟨rfl, c9, HE.out.1, HE.out.2.1, i, s.v, HIX.out, HV.out, HE.out.2.2⟩⟩
end Go.Proofs.Ytiimanoloedbeaa

/-
  What Frozen, Covers, Scan and Changed return. Conditions: the rows read as bytes and flags, of no more than ten thousand.
-/
namespace Go.Proofs.Ytiimanoloedbeaa
open Go.RowKit
set_option linter.unusedSimpArgs false
set_option maxRecDepth 100000
set_option linter.unusedVariables false
theorem OwnI.nil (w : World) (base : Nat) : OwnI w base (.slice none 0 0) 0 [] := World.ownsRow_nil w base _ 1
/-- the first k frozen -/
def frozenTo (bs : List Nat) (k : Nat) : List Nat := (bs.take k).map frz ++ bs.drop k
theorem frozenTo_zero (bs : List Nat) : frozenTo bs 0 = bs := by simp [frozenTo]
theorem frozenTo_all (bs : List Nat) : frozenTo bs bs.length = frozenM bs := by simp [frozenTo, frozenM]
theorem frozenTo_at {bs : List Nat} {k b : Nat} (h : bs[k]? = some b) : (frozenTo bs k)[k]? = some b := by
  have hk : k < bs.length := (List.getElem?_eq_some_iff.1 h).1
  unfold frozenTo
  rw [List.getElem?_append_right (by simp; omega), List.getElem?_drop, ← h]
  congr 1
  simp
  omega
theorem frozenTo_succ {bs : List Nat} {k b : Nat} (h : bs[k]? = some b) : frozenTo bs (k + 1) = (frozenTo bs k).set k (frz b) := by
  have hk : k < bs.length := (List.getElem?_eq_some_iff.1 h).1
  have hb : bs[k] = b := (List.getElem?_eq_some_iff.1 h).2
  unfold frozenTo
  rw [List.set_append_right _ _ (by simp; omega), take_snoc h, List.map_append, List.append_assoc]
  congr 1
  rw [show k - (List.map frz (List.take k bs)).length = 0 by simp; omega, List.drop_eq_getElem_cons hk, List.set_cons_zero]
  simp
theorem frozenTo_stay {bs : List Nat} {k b : Nat} (h : bs[k]? = some b) (hb : b ≠ 1) : frozenTo bs (k + 1) = frozenTo bs k := by
  rw [frozenTo_succ h]
  have e : frz b = b := by unfold frz; rw [if_neg hb]
  rw [e]
  apply List.ext_getElem?
  intro j
  rw [List.getElem?_set]
  split
  · rename_i e
    subst e
    have := frozenTo_at h
    rw [if_pos (List.getElem?_eq_some_iff.1 this).1, this]
  · rfl
theorem frozen_any (A : Option Addr) (n c : Nat) (bs : List Nat) (w : World) (hn : n ≤ 10000) (hb : Bytes w w.heap.size A n bs) :
    Calls Try.prog 115 #[.slice A n c] w fun e w' => e = .returned (.slice (some ⟨w.heap.size, 0, none⟩) n n) ∧ Blk w' w.heap.size 5 (u8s (frozenM bs)).toArray ∧ Below w.heap.size w w' := by
  have hl := hb.len
  have HB := Lib.hid hb
  have HL := Lib.hid (like_any A n c bs w (by omega) hb)
  clear hb
  go_enter Try.func115, Try.ntmps115
  go_wp2_with fail
  refine HL.out.mono ?_
  rintro e w1 ⟨rfl, k1, b1⟩
  generalize hg : w.heap.size = g at *
  have HK := Lib.hid (And.intro k1 b1)
  clear k1 b1 HL
  go_wp2
  go_loopw [10] (fun i wr => ∃ k : Nat, k ≤ n ∧ i = .int .i64 k ∧ Blk wr g 5 (u8s (frozenTo bs k)).toArray ∧ Below g w wr) (fun i _ => n - (intOf i).toNat)
  case atStart => exact ⟨0, by omega, rfl, by rw [frozenTo_zero]; exact HK.out.1, HK.out.2⟩
  case round =>
    obtain ⟨k, hk, rfl, hkb, hbl⟩ := hrel
    by_cases hlt : k < n
    · obtain ⟨b, hb⟩ : ∃ b, bs[k]? = some b := ⟨_, List.getElem?_eq_getElem (by omega)⟩
      have hc := hkb.cell8 (frozenTo_at hb)
      have hf := hkb.frozen k
      by_cases h1 : b = 1
      · subst h1
        have HE := Lib.hid (And.intro (hkb.set8 k 3) (hbl.setCell (p := ⟨g, k, none⟩) (Nat.le_refl _) (.int .u8 ((3 : Nat) : Int))))
        have HS := Lib.hid (frozenTo_succ hb)
        clear hkb hbl hb
        go_wp2
        go_roundw
        case rel => exact ⟨k + 1, by omega, by go_num, by rw [HS.out]; exact HE.out.1, HE.out.2⟩
        case measure => simp [intOf]; omega
      · have hd : ((b : Int) == 1) = false := by simp; omega
        have HS := Lib.hid (frozenTo_stay hb h1)
        have HE := Lib.hid (And.intro hkb hbl)
        clear hkb hbl hb
        go_wp2
        go_roundw
        case rel => exact ⟨k + 1, by omega, by go_num, by rw [HS.out]; exact HE.out.1, HE.out.2⟩
        case measure => simp [intOf]; omega
    · obtain rfl : k = n := by omega
      have HE := Lib.hid (And.intro hkb hbl)
      clear hkb hbl
      go_wp2
      go_ret
      subst hg
      refine ⟨rfl, ?_, HE.out.2⟩
      have := HE.out.1
      rwa [← hl, frozenTo_all] at this
end Go.Proofs.Ytiimanoloedbeaa
