/-
  The same object, of its own memory. Conditions: the object lies where it is said to, and is small.
-/
import Derived.Test.YtjepfeagbiceoaaQe
import Derived.Deep.CutRange
namespace Go.Proofs.Ytjepfeagbiceoaa
open Go.RowKit
set_option linter.unusedSimpArgs false
set_option linter.unusedVariables false
set_option maxRecDepth 100000
theorem run_store_cell {P : Program} (w : World) (g i : Nat) (ty : TypeId) (v : Value) (ht : w.there g i 1) (hi : (P.info? ty).map (·.size) = some 1) (h1 : v.oneCell' = true) :
    (storeVar ty ⟨g, i, none⟩ v).run P w = .ok () (w.setCell ⟨g, i, none⟩ v) := by
  have := run_storeCells_cells (P := P) g i [v] 0 w (fun j hj => by simpa using (ht j (by simpa using hj)).1) (fun j hj => by simpa using (ht j (by simpa using hj)).2) (fun u hu => by simp at hu; subst hu; exact h1)
  have hc : v.cells = #[v] := by cases v <;> first | rfl | cases h1
  cases hq : P.info? ty with
  | none => simp [hq] at hi
  | some i0 =>
    have hs : i0.size = 1 := by simpa [hq] using hi
    simp only [Nat.add_zero] at this
    simp [storeVar, sizeOf, typeInfo, hq, hc, hs, this, World.setCells]
section
variable {P : Program} {ops : Array Oper} {rest : List Oper} {o : Oper} {a : Act} {w : World} {Q : Exit → Act → World → Prop}
theorem wp_setq {K : Act → World → Prop} (ty : TypeId) (x y : Operand) (ho : o.op = .store ty x y)
    (g i : Nat) (t : TypeId) (cs : Array Value) (v : Value) (hx : a.eval x = .pointer (some ⟨g, i, none⟩)) (hy : a.eval y = v) (hB : Blk w g t cs) (hs : i < cs.size) (hi : (P.info? ty).map (·.size) = some 1) (h1 : v.oneCell' = true)
    (h : ∀ w', Blk w' g t (cs.setIfInBounds i v) → Only [g] w w' → w'.heap.size = w.heap.size → K (a.put o.dst undef) w') : o.wp P a w K Q := by
  unfold Oper.wp execOp
  simp only [ho, hx, hy, Instr.storeAt, Instr.sureAddr, Sem.run_bind, Sem.run_pure, Result.andThen_ok, run_store_cell w g i ty v (hB.there (by omega)) hi h1]
  exact h _ (hB.set_ i v) ((Only.refl _ _).setCell (.inl (by simp)) _) (by simp [World.setCell])
/-- one cell of a block known whole is stored -/
theorem wpList_setq (hgd : o.guard = none) (ty : TypeId) (x y : Operand) (ho : o.op = .store ty x y)
    (g i : Nat) (t : TypeId) (cs : Array Value) (v : Value) (hx : a.eval x = .pointer (some ⟨g, i, none⟩)) (hy : a.eval y = v) (hB : Blk w g t cs) (hs : i < cs.size) (hi : (P.info? ty).map (·.size) = some 1) (h1 : v.oneCell' = true)
    (h : ∀ w', Blk w' g t (cs.setIfInBounds i v) → Only [g] w w' → w'.heap.size = w.heap.size → wpList P ops Q rest (a.put o.dst undef) w') : wpList P ops Q (o :: rest) a w :=
  wpList_plain hgd fun _ hK => wp_setq ty x y ho g i t cs v hx hy hB hs hi h1 fun w' h1 h2 h3 => hK _ _ (h w' h1 h2 h3)
/-- a block known whole is stored over -/
theorem wpList_storeq (hgd : o.guard = none) (ty : TypeId) (x y : Operand) (ho : o.op = .store ty x y)
    (g : Nat) (cs : Array Value) (vs : List Value) (hx : a.eval x = .pointer (some ⟨g, 0, none⟩)) (hy : a.eval y = .agg vs.toArray) (hB : Blk w g ty cs) (hs : vs.length = cs.size) (hi : (P.info? ty).map (·.size) = some vs.length) (h1 : ∀ v ∈ vs, v.oneCell' = true)
    (h : ∀ w', Blk w' g ty vs.toArray → Only [g] w w' → w'.heap.size = w.heap.size → wpList P ops Q rest (a.put o.dst undef) w') : wpList P ops Q (o :: rest) a w :=
  wpList_store_mid hgd ty x y ho g 0 vs.toArray hx hy (hB.there (by simp [hs])) (by simpa using hi) (all_oneCell_toArray h1)
    (h _ (by simpa using hB.over vs hs) ((Only.refl _ _).grown (by simpa using (setCells_grown g vs 0 w).1) (fun k e => .inl (by injection e with e; simp [e]))) (by simpa using (setCells_grown g vs 0 w).2))
theorem wpList_loadq (hgd : o.guard = none) (ty : TypeId) (x : Operand) (ho : o.op = .load ty x)
    (g : Nat) (cs : List Value) (d : TypeDesc) (hx : a.eval x = .pointer (some ⟨g, 0, none⟩)) (hB : Blk w g ty cs.toArray) (hu : P.underlying ty = some d) (hd : d.isRow = true) (hi : (P.info? ty).map (·.size) = some cs.length)
    (h : wpList P ops Q rest (a.put o.dst (.agg cs.toArray)) w) : wpList P ops Q (o :: rest) a w :=
  wpList_load_mid hgd ty x ho g 0 hx cs d hB.range hu hd hi h
end
theorem Blk.only {F : List Nat} {w w' : World} {g : Nat} {t : TypeId} {cs : Array Value} (h : Blk w g t cs) (ho : Only F w w') (hn : g ∉ F) : Blk w' g t cs := h.of (ho.block g h.lt hn)
theorem OA.cs_one (o : OA) : ∀ v ∈ [Value.bool o.th, .slice o.D o.dt.length o.cd, .int .i64 o.sq, .slice o.C o.cl.length o.cc], v.oneCell' = true := by
  intro v hv
  simp at hv
  rcases hv with rfl | rfl | rfl | rfl <;> rfl
/-- what like hands back -/
def LikeTo (w : World) (o : OA) (e : Ending) (w' : World) : Prop := ∃ o' : OA, o'.v = o.v ∧ o'.Sm ∧ o'.N w' w.heap.size ∧ e = .returned (.agg o'.cs) ∧ Below w.heap.size w w'
theorem OA.Sm.of_v {o o' : OA} (h : o.Sm) (e : o'.v = o.v) : o'.Sm := by
  have e1 : o'.dt = o.dt := congrArg OV.dt e
  have e2 : o'.vs = o.vs := congrArg OV.cl e
  refine ⟨by rw [e1]; exact h.dt, by rw [← OA.vs_len, e2, OA.vs_len]; exact h.cn, fun c hc => ?_⟩
  have : c.v ∈ o'.vs := List.mem_map.2 ⟨c, hc, rfl⟩
  rw [e2] at this
  obtain ⟨c', hc', e3⟩ := List.mem_map.1 this
  have h1 := h.cl c' hc'
  have e4 : c'.sn = c.sn := congrArg ClV.sn e3
  have e5 : c'.dt = c.dt := congrArg ClV.dt e3
  rw [← e4, ← e5]
  exact h1
/-- memory while a copy is made: the copy at n, the result's variable at n - 1; the first of o's clones have been copied -/
structure Liking (w : World) (o : OA) (q : OA) (rest : List CA) (wr : World) : Prop where
  blk : Blk wr (w.heap.size + 1) 36 #[.bool q.th, .slice q.D q.dt.length q.cd, .int .i64 q.sq, .slice q.C (q.cl ++ rest).length q.cc]
  res : ∃ Z : Array Value, Blk wr w.heap.size 36 Z ∧ Z.size = 4
  own : q.P rest wr w.heap.size
  bel : Below w.heap.size w wr
theorem Liking.next {w wr wr' : World} {o q : OA} {rest : List CA} (h : Liking w o q rest wr) (hb : Below wr.heap.size wr wr') : Liking w o q rest wr' := by
  obtain ⟨Z, hZ, hs⟩ := h.res
  exact ⟨h.blk.of (hb.block _ h.blk.lt), ⟨Z, hZ.of (hb.block _ hZ.lt), hs⟩, h.own.below hb, h.bel.trans (hb.mono h.bel.size)⟩
set_option maxHeartbeats 8000000 in
theorem like_any {w : World} {g : Nat} (o : OA) (hg : Blk w g 36 o.cs) (h : o.R w) (hS : o.Sm) : Calls Try.prog 68 #[.pointer (some ⟨g, 0, none⟩)] w (LikeTo w o) := by
  have H := Lib.hid h
  have HSM := Lib.hid hS
  have HG := Lib.hid hg
  have hba : Below w.heap.size w (w.alloc (.cells #[.bool false, .slice none 0 0, .int .i64 0, .slice none 0 0] 36)) := below_alloc w _
  have hbc : Below w.heap.size w ((w.alloc (.cells #[.bool false, .slice none 0 0, .int .i64 0, .slice none 0 0] 36)).alloc (.cells o.cs 36)) := hba.alloc (by simp) _
  have K0 : Blk ((w.alloc (.cells #[.bool false, .slice none 0 0, .int .i64 0, .slice none 0 0] 36)).alloc (.cells o.cs 36)) w.heap.size 36 #[.bool false, .slice none 0 0, .int .i64 0, .slice none 0 0] := (Blk.new w _ _).alloc _
  have K1 : Blk ((w.alloc (.cells #[.bool false, .slice none 0 0, .int .i64 0, .slice none 0 0] 36)).alloc (.cells o.cs 36)) (w.heap.size + 1) 36 o.cs := by
    have := Blk.new (w.alloc (.cells #[.bool false, .slice none 0 0, .int .i64 0, .slice none 0 0] 36)) 36 o.cs
    simpa using this
  have KG : Blk ((w.alloc (.cells #[.bool false, .slice none 0 0, .int .i64 0, .slice none 0 0] 36)).alloc (.cells o.cs 36)) g 36 o.cs := (hg.alloc _).alloc _
  have hR1 : o.R ((w.alloc (.cells #[.bool false, .slice none 0 0, .int .i64 0, .slice none 0 0] 36)).alloc (.cells o.cs 36)) := h.since hbc
  have hG1 : Blk (w.alloc (.cells #[.bool false, .slice none 0 0, .int .i64 0, .slice none 0 0] 36)) g 36 [Value.bool o.th, .slice o.D o.dt.length o.cd, .int .i64 o.sq, .slice o.C o.cl.length o.cc].toArray := hg.alloc _
  have HW := Lib.hid (And.intro hbc (And.intro K0 (And.intro K1 (And.intro KG hR1))))
  have hgl := hg.lt
  clear hba hbc K0 K1 KG hR1 h hS hg
  unfold OA.cs at HW
  go_enter Try.func68, Try.ntmps68
  go_upto_region 2 with (refine wpList_loadq rfl 36 (.tmp 7) rfl g [Value.bool o.th, .slice o.D o.dt.length o.cd, .int .i64 o.sq, .slice o.C o.cl.length o.cc] _ rfl hG1 Try.underlying36 rfl (by kernel_rfl) ?_)
  obtain ⟨w0, hw0⟩ : ∃ w0, w0 = (w.alloc (.cells #[.bool false, .slice none 0 0, .int .i64 0, .slice none 0 0] 36)).alloc (.cells #[.bool o.th, .slice o.D o.dt.length o.cd, .int .i64 o.sq, .slice o.C o.cl.length o.cc] 36) := ⟨_, rfl⟩
  rw [← hw0] at HW ⊢
  clear hw0 hG1
  have hC1 := HW.out.2.2.2.1.cell 1
  have hC3 := HW.out.2.2.2.1.cell 3
  have hs := HSM.out.dt
  have HCL := Lib.hid (clone_any o.D o.dt.length o.cd o.dt w0 _ (by omega) HW.out.2.2.2.2.dt)
  go_wp2_with fail
  refine HCL.out.mono ?_
  rintro e w1 ⟨v1, rfl, hv1, hb1⟩
  obtain ⟨D2, c2, rfl, -⟩ := hv1.form
  have HV1 := Lib.hid hv1
  have K1 := HW.out.2.2.1.of (hb1.block _ HW.out.2.2.1.lt)
  have HB1 := Lib.hid hb1
  clear hv1 hb1 HCL hC1 hC3
  go_upto_region 3 with (have _h := K1; refine wpList_setq rfl 22 (.tmp 14) (.tmp 13) rfl (w.heap.size + 1) 1 36 _ (.slice D2 o.dt.length c2) rfl rfl K1 (by simp) (by kernel_rfl) rfl ?_; clear _h K1; intro w2 K2 ho2 hs2)
  have hb02 : Below w.heap.size w w2 := HW.out.1.trans ((HB1.out.mono (by have := HW.out.1.size; omega)).trans (ho2.below (B := w.heap.size) (fun k hk => by simp at hk; omega) (by have := HW.out.1.size; have := HB1.out.size; omega)))
  have hR2 := H.out.since hb02
  have KG2 := HG.out.of (hb02.block _ hgl)
  have hC3 : w2.cell? ⟨g, 3, none⟩ = some (.slice o.C o.cl.length o.cc) := KG2.cell 3
  have hsn := HSM.out.cn
  have HV2 : Hid (Own w2 w.heap.size (.slice D2 o.dt.length c2) o.dt.length o.dt) := Lib.hid (Own.weaken (base := w0.heap.size) (row_of HV1.out fun k hk => ho2.block k (row_under HV1.out k hk) (fun hm => by simp at hm; subst hm; obtain ⟨cs, hb⟩ := own_ty HV1.out hk; exact hb.ne_ (HW.out.2.2.1.of (HB1.out.block _ HW.out.2.2.1.lt)) (by decide) rfl)) HW.out.1.size)
  have KR2 : Hid (Blk w2 w.heap.size 36 #[.bool false, .slice none 0 0, .int .i64 0, .slice none 0 0]) := Lib.hid ((HW.out.2.1.of (HB1.out.block _ HW.out.2.1.lt)).only ho2 (by simp))
  have HB2 := Lib.hid (And.intro hb02 hR2)
  have HCC := Lib.hid (cclone_any (c := o.cc) (by omega) hR2.row)
  have HK2 := Lib.hid K2
  clear ho2 hs2 HV1 HB1 HW hb02 hR2 KG2 K2
  go_wp2_with fail
  refine HCC.out.mono ?_
  rintro e w3 ⟨C3, c3, rfl, hv3, hb3⟩
  have K3 := HK2.out.of (hb3.block _ HK2.out.lt)
  have HV3 := Lib.hid (And.intro hv3 hb3)
  clear hv3 hb3 HCC hC3
  go_upto_region 4 with (have _h := K3; refine wpList_setq rfl 34 (.tmp 20) (.tmp 19) rfl (w.heap.size + 1) 3 36 _ (.slice C3 o.cl.length c3) rfl rfl K3 (by simp) (by kernel_rfl) rfl ?_; clear _h K3; intro w4 K4 ho4 hs4)
  have K4' : Blk w4 (w.heap.size + 1) 36 #[.bool o.th, .slice D2 o.dt.length c2, .int .i64 o.sq, .slice C3 o.cl.length c3] := by simpa using K4
  have hsz2 := HB2.out.1.size
  have hsz3 := HV3.out.2.size
  have hn2 : w.heap.size + 1 < w2.heap.size := HK2.out.lt
  have hL0 : Liking w o ⟨o.th, o.dt, D2, c2, o.sq, C3, c3, []⟩ o.cl w4 := by
    have K3' := HK2.out.of (HV3.out.2.block _ HK2.out.lt)
    refine ⟨by simpa using K4', ⟨_, (KR2.out.of (HV3.out.2.block _ KR2.out.lt)).only ho4 (by simp), rfl⟩, ⟨?_, HB2.out.2.dt.2, ?_, fun c hc => (by cases hc), HB2.out.2.q1, HB2.out.2.q2, List.pairwise_singleton _ _, List.Pairwise.nil⟩, ?_⟩
    · have h3 := HV2.out.below HV3.out.2
      exact row_of h3 fun k hk => ho4.block k (row_under h3 k hk) (fun hm => by simp at hm; subst hm; obtain ⟨cs, hb⟩ := own_ty h3 hk; exact hb.ne_ K3' (by decide) rfl)
    · have h3 : OwnC 79 w3 w.heap.size (.slice C3 o.cl.length c3) o.cl := row_weaken HV3.out.1 HB2.out.1.size
      exact row_of h3 fun k hk => ho4.block k (row_under h3 k hk) (fun hm => by simp at hm; subst hm; obtain ⟨cs, hb⟩ := own_ty h3 hk; exact hb.ne_ K3' (by decide) rfl)
    · exact (HB2.out.1.trans (HV3.out.2.mono HB2.out.1.size)).trans (ho4.below (B := w.heap.size) (fun k hk => by simp at hk; omega) (by omega))
  have HL0 := Lib.hid hL0
  have hC3 : w4.cell? ⟨w.heap.size + 1, 3, none⟩ = some (.slice C3 o.cl.length c3) := K4'.cell 3
  have hcl4 := H.out.c1
  clear hL0 K4 K4' ho4 hs4 HV2 KR2 HB2 HV3 HK2 hsz2 hsz3 hn2
  go_wp2
  go_loopw [24] (fun i wr => ∃ (k : Nat) (new : List CA), k ≤ o.cl.length ∧ i = .int .i64 k ∧ new.map CA.v = (o.cl.take k).map CA.v ∧ Liking w o ⟨o.th, o.dt, D2, c2, o.sq, C3, c3, new⟩ (o.cl.drop k) wr) (fun i _ => o.cl.length - (intOf i).toNat)
  case atStart => exact ⟨0, [], by omega, rfl, rfl, HL0.out⟩
  case round =>
    obtain ⟨k, new, hk, rfl, hnew, hL⟩ := hrel
    have HNW := Lib.hid hnew
    have HL := Lib.hid hL
    have hnl : new.length = k := by
      have := congrArg List.length hnew
      simp at this
      omega
    have HNL := Lib.hid hnl
    clear hnew hL hC3 hnl
    obtain ⟨wo, hwo⟩ : ∃ wo, wo = wr := ⟨_, rfl⟩
    subst hwo
    by_cases hlt : k < o.cl.length
    · have hwk : IntKind.i64.wrap ((k : Int) + 1) = (k : Int) + 1 := by rw [IntKind.wrap_i64]; omega
      obtain ⟨c, hcl⟩ : ∃ c, o.cl[k]? = some c := ⟨_, List.getElem?_eq_getElem hlt⟩
      have hdrop : o.cl.drop k = c :: o.cl.drop (k + 1) := by
        rw [List.drop_eq_getElem_cons hlt, (List.getElem?_eq_some_iff.1 hcl).2]
      have hrow := HL.out.own.row
      rw [hdrop] at hrow
      obtain ⟨r, hr⟩ : ∃ r, C3 = some ⟨r, 0, none⟩ := by
        obtain ⟨-, -, -, h | ⟨b, h, -⟩⟩ := own_shape hrow
        · exfalso
          have h2 := hrow.2
          rcases h2 with ⟨_, h0⟩ | ⟨g2, cap2, cur2, e2, _⟩
          · simp at h0
          · injection e2 with e2
            simp only at h
            rw [h] at e2
            cases e2
        · exact ⟨b, h⟩
      subst hr
      have hlen : (new ++ o.cl.drop k).length = o.cl.length := by simp; have := HNL.out; omega
      have hget : (new ++ c :: o.cl.drop (k + 1))[k]? = some c := by
        rw [List.getElem?_append_right (by have := HNL.out; omega), HNL.out, Nat.sub_self]
        rfl
      have hrd := Reads.of_own hrow
      have hc : ∀ j v, c.cells[j]? = some v → wo.cell? ((⟨r, 0, none⟩ : Addr).add (k * 2 + j)) = some v := fun j v hj => by
        obtain ⟨ad, e, hb, hcc⟩ := hrd.2 (by simp only [List.length_append, List.length_cons]; omega)
        injection e with e
        subst e
        have hj2 : j < 2 := by have := (List.getElem?_eq_some_iff.1 hj).1; rwa [CA.cells_len] at this
        exact hcc _ v (by rw [flat_at CA.cells 2 CA.cells_len _ k j c hget hj2]; exact hj)
      have hc' : ∀ j v, c.cells[j]? = some v → wo.cell? ((⟨r, k * 2, none⟩ : Addr).add j) = some v := fun j v hj => by
        have := hc j v hj
        rw [add_zero_off] at this
        have e : (⟨r, k * 2, none⟩ : Addr).add j = ⟨r, k * 2 + j, none⟩ := by unfold Addr.add; split <;> simp_all
        rw [e]
        exact this
      have HD := Lib.hid hdrop
      have HROW := Lib.hid hrow
      clear hdrop hrow hrd hc
      have hcd := hc'
      clear hc'
      have hrl : r < wo.heap.size := (World.ownsRow.lt HROW.out r rfl).2
      have hCc := H.out.c2
      go_upto_region 7 with (have _h := hcd; refine wpList_load_scl rfl (.tmp 27) rfl _ rfl c hcd ?_; clear _h hcd)
      obtain ⟨wA, hwA⟩ : ∃ wA, wA = wo.alloc (.cells #[.slice c.S c.sn.length c.cs, .slice c.D c.dt.length c.cd] 79) := ⟨_, rfl⟩
      have hbA : Below wo.heap.size wo wA := by rw [hwA]; exact below_alloc wo _
      have KC : Blk wA wo.heap.size 79 #[.slice c.S c.sn.length c.cs, .slice c.D c.dt.length c.cd] := by rw [hwA]; exact Blk.new wo _ _
      have hLA := HL.out.next hbA
      have KN : Blk wA (w.heap.size + 1) 36 #[.bool o.th, .slice D2 o.dt.length c2, .int .i64 o.sq, .slice (some ⟨r, 0, none⟩) o.cl.length c3] := by have := hLA.blk; simpa only [hlen] using this
      have HLA := Lib.hid hLA
      have hcok := (H.out.since hLA.bel).cl c (List.mem_of_getElem? hcl)
      have hcs := HSM.out.cl c (List.mem_of_getElem? hcl)
      have HOK := Lib.hid (And.intro hcok hcs)
      rw [← hwA]
      have HWA := Lib.hid (And.intro hwA hbA)
      clear hwA hbA hLA hcok hcs
      obtain ⟨gx, hgx⟩ : ∃ gx, gx = wo.heap.size := ⟨_, rfl⟩
      rw [← hgx] at KC ⊢
      have HGX := Lib.hid hgx
      clear hgx
      have HC : Hid (∀ w', (Blk w' (w.heap.size + 1) 36 #[.bool o.th, .slice D2 o.dt.length c2, .int .i64 o.sq, .slice (some ⟨r, 0, none⟩) o.cl.length c3] ∧ Blk w' gx 79 #[.slice c.S c.sn.length c.cs, .slice c.D c.dt.length c.cd]) → w'.cell? ⟨w.heap.size + 1, 3, none⟩ = some (.slice (some ⟨r, 0, none⟩) o.cl.length c3) ∧ w'.cell? ⟨gx, 0, none⟩ = some (.slice c.S c.sn.length c.cs) ∧ w'.cell? ⟨gx, 1, none⟩ = some (.slice c.D c.dt.length c.cd)) := Lib.hid fun w' h => ⟨h.1.cell 3, h.2.cell 0, h.2.cell 1⟩
      have hS : Blk wA.drew (w.heap.size + 1) 36 #[.bool o.th, .slice D2 o.dt.length c2, .int .i64 o.sq, .slice (some ⟨r, 0, none⟩) o.cl.length c3] ∧ Blk wA.drew gx 79 #[.slice c.S c.sn.length c.cs, .slice c.D c.dt.length c.cd] := ⟨KN.drew, KC.drew⟩
      refine any_beginL (fun w' => Blk w' (w.heap.size + 1) 36 #[.bool o.th, .slice D2 o.dt.length c2, .int .i64 o.sq, .slice (some ⟨r, 0, none⟩) o.cl.length c3] ∧ Blk w' gx 79 #[.slice c.S c.sn.length c.cs, .slice c.D c.dt.length c.cd]) 11 (by kernel_rfl) ?_
      refine L_take (i := 0) (v := .pointer (some ⟨w.heap.size + 1, 3, none⟩)) rfl rfl (by kernel_rfl) (by kernel_rfl) (by kernel_rfl) (by kernel_rfl) (fun _ _ _ h => h) (Or.inl ⟨by rfl, fun w hw => by go_simp⟩) hS ?_
      simp only [Act.put, List.getElem_toArray, List.getElem_cons_succ, List.getElem_cons_zero, List.setIfInBounds_toArray, List.set_cons_zero, List.set_cons_succ]
      refine L_take (i := 1) (v := .slice (some ⟨r, 0, none⟩) o.cl.length c3) rfl rfl (by kernel_rfl) (by kernel_rfl) (by kernel_rfl) (by kernel_rfl) (fun _ _ _ h => h) (Or.inl ⟨by rfl, fun w hw => by have q := (HC.out w hw).1; go_simp⟩) hS ?_
      simp only [Act.put, List.getElem_toArray, List.getElem_cons_succ, List.getElem_cons_zero, List.setIfInBounds_toArray, List.set_cons_zero, List.set_cons_succ]
      refine L_take (i := 2) (v := .int .i64 k) rfl rfl (by kernel_rfl) (by kernel_rfl) (by kernel_rfl) (by kernel_rfl) (fun _ _ _ h => h) (Or.inl ⟨by rfl, fun w hw => by kernel_rfl⟩) hS ?_
      simp only [Act.put, List.getElem_toArray, List.getElem_cons_succ, List.getElem_cons_zero, List.setIfInBounds_toArray, List.set_cons_zero, List.set_cons_succ]
      refine L_take (i := 3) (v := .pointer (some ⟨gx, 0, none⟩)) rfl rfl (by kernel_rfl) (by kernel_rfl) (by kernel_rfl) (by kernel_rfl) (fun _ _ _ h => h) (Or.inl ⟨by rfl, fun w hw => by go_simp⟩) hS ?_
      simp only [Act.put, List.getElem_toArray, List.getElem_cons_succ, List.getElem_cons_zero, List.setIfInBounds_toArray, List.set_cons_zero, List.set_cons_succ]
      refine L_take (i := 4) (v := .slice c.S c.sn.length c.cs) rfl rfl (by kernel_rfl) (by kernel_rfl) (by kernel_rfl) (by kernel_rfl) (fun _ _ _ h => h) (Or.inl ⟨by rfl, fun w hw => by have q := (HC.out w hw).2.1; go_simp⟩) hS ?_
      simp only [Act.put, List.getElem_toArray, List.getElem_cons_succ, List.getElem_cons_zero, List.setIfInBounds_toArray, List.set_cons_zero, List.set_cons_succ]
      refine L_take (i := 6) (v := .pointer (some ⟨gx, 1, none⟩)) rfl rfl (by kernel_rfl) (by kernel_rfl) (by kernel_rfl) (by kernel_rfl) (fun _ _ _ h => h) (Or.inl ⟨by rfl, fun w hw => by go_simp⟩) hS ?_
      simp only [Act.put, List.getElem_toArray, List.getElem_cons_succ, List.getElem_cons_zero, List.setIfInBounds_toArray, List.set_cons_zero, List.set_cons_succ]
      refine L_take (i := 7) (v := .slice c.D c.dt.length c.cd) rfl rfl (by kernel_rfl) (by kernel_rfl) (by kernel_rfl) (by kernel_rfl) (fun _ _ _ h => h) (Or.inl ⟨by rfl, fun w hw => by have q := (HC.out w hw).2.2; go_simp⟩) hS ?_
      simp only [Act.put, List.getElem_toArray, List.getElem_cons_succ, List.getElem_cons_zero, List.setIfInBounds_toArray, List.set_cons_zero, List.set_cons_succ]
      have hzA : wA.drew.heap.size = wA.heap.size := rfl
      have hrA : HLA.out = HLA.out := rfl
      clear hrA
      refine L_one (j := 5) (by kernel_rfl) rfl (by rfl) ?_
      simp only [Act.put, List.getElem_toArray, List.getElem_cons_succ, List.getElem_cons_zero, List.setIfInBounds_toArray, List.set_cons_zero, List.set_cons_succ]
      refine wp_called (by kernel_rfl) (iclone_any (l := c.sn) (c := c.cs) (w := wA.drew) (B := wA.heap.size) (by have := HOK.out.2.1; omega) HOK.out.1.sn.drew) ?_
      rintro e w5 ⟨S5, c5, rfl, hv5, hb5⟩
      have hb5' : Below wA.heap.size wA w5 := below_drew' hb5
      refine ⟨_, rfl, ⟨KN.of (hb5'.block _ KN.lt), KC.of (hb5'.block _ KC.lt)⟩, ?_⟩
      simp only [Act.put, List.getElem_toArray, List.getElem_cons_succ, List.getElem_cons_zero, List.setIfInBounds_toArray, List.set_cons_zero, List.set_cons_succ]
      refine L_one (j := 8) (by kernel_rfl) rfl (by rfl) ?_
      simp only [Act.put, List.getElem_toArray, List.getElem_cons_succ, List.getElem_cons_zero, List.setIfInBounds_toArray, List.set_cons_zero, List.set_cons_succ]
      refine wp_called (by kernel_rfl) (clone_any c.D c.dt.length c.cd c.dt w5 _ (by have := HOK.out.2.2; omega) ((HOK.out.1.since hb5').dt)) ?_
      rintro e w6 ⟨v6, rfl, hv6, hb6⟩
      obtain ⟨D6, c6, rfl, -⟩ := hv6.form
      have K6 := And.intro ((KN.of (hb5'.block _ KN.lt)).of (hb6.block _ (KN.of (hb5'.block _ KN.lt)).lt)) ((KC.of (hb5'.block _ KC.lt)).of (hb6.block _ (KC.of (hb5'.block _ KC.lt)).lt))
      refine ⟨_, rfl, K6, ?_⟩
      simp only [Act.put, List.getElem_toArray, List.getElem_cons_succ, List.getElem_cons_zero, List.setIfInBounds_toArray, List.set_cons_zero, List.set_cons_succ]
      refine L_one (j := 9) (by kernel_rfl) rfl (by rfl) ?_
      simp only [Act.put, List.getElem_toArray, List.getElem_cons_succ, List.getElem_cons_zero, List.setIfInBounds_toArray, List.set_cons_zero, List.set_cons_succ]
      refine wp_ran (v := .agg #[.slice S5 c.sn.length c5, .slice D6 c.dt.length c6]) (w' := w6) (by kernel_rfl) ⟨K6, ?_⟩
      simp only [Act.put, List.getElem_toArray, List.getElem_cons_succ, List.getElem_cons_zero, List.setIfInBounds_toArray, List.set_cons_zero, List.set_cons_succ]
      refine L_one (j := 10) (by kernel_rfl) rfl (by rfl) ?_
      simp only [Act.put, List.getElem_toArray, List.getElem_cons_succ, List.getElem_cons_zero, List.setIfInBounds_toArray, List.set_cons_zero, List.set_cons_succ]
      refine wp_ran (v := .pointer (some ⟨r, k * 2, none⟩)) (w' := w6) (by go_simp) ⟨K6, ?_⟩
      simp only [Act.put, List.getElem_toArray, List.getElem_cons_succ, List.getElem_cons_zero, List.setIfInBounds_toArray, List.set_cons_zero, List.set_cons_succ]
      refine L_last (by kernel_rfl) rfl (by rfl) (by kernel_rfl) ?_
      simp only [Act.put, List.getElem_toArray, List.getElem_cons_succ, List.getElem_cons_zero, List.setIfInBounds_toArray, List.set_cons_zero, List.set_cons_succ]
      have hbA6 : Below wA.heap.size wA w6 := hb5'.trans (hb6.mono hb5'.size)
      have hcN : CA.N ⟨c.sn, c.dt, S5, c5, D6, c6⟩ w6 wA.heap.size := ⟨OwnI.below hv5 hb6, Own.weaken hv6 (by have := hb5'.size; omega), HOK.out.1.dt.2, HOK.out.1.i1⟩
      have hP := HLA.out.own
      rw [HD.out] at hP
      have hst := OA.P.step hP hbA6 hcN rfl (by have := HLA.out.bel.size; omega)
      have hth : w6.there r (k * 2) 2 := by
        obtain ⟨cs, hcs⟩ := ((hP.below hbA6).cU r (by simp [rowOf, Value.ownBlock])).2.2
        have hrow6 := (hP.below hbA6).row
        rcases hrow6.2 with ⟨h, _⟩ | ⟨g9, cap9, cur9, e9, _, hh9, hn9, _, hs9, _⟩
        · cases h
        · injection e9 with e9 _ _
          injection e9 with e9
          injection e9 with e9
          subst e9
          refine (show Blk w6 _ 79 cur9 from hh9).there ?_
          rw [hs9]
          have : (new ++ c :: o.cl.drop (k + 1)).length = o.cl.length := by rw [← HD.out]; exact hlen
          simp only at hn9
          omega
      have hNew : Liking w o ⟨o.th, o.dt, D2, c2, o.sq, some ⟨r, 0, none⟩, c3, new ++ [⟨c.sn, c.dt, S5, c5, D6, c6⟩]⟩ (o.cl.drop (k + 1)) (w6.setCells r (new.length * 2) [.slice S5 c.sn.length c5, .slice D6 c.dt.length c6]) := by
        have h6 := HLA.out.next hbA6
        obtain ⟨csr, hcr⟩ := (h6.own.cU r (by simp [rowOf, Value.ownBlock])).2.2
        have hgr := (setCells_grown r [.slice S5 c.sn.length c5, .slice D6 c.dt.length c6] (new.length * 2) w6)
        obtain ⟨Z, hZ, hZs⟩ := h6.res
        refine ⟨?_, ⟨Z, hZ.grown hgr.1 (fun e => by injection e with e; exact hZ.ne_ hcr (by decide) e), hZs⟩, hst, ?_⟩
        · have := h6.blk.grown hgr.1 (fun e => by injection e with e; exact h6.blk.ne_ hcr (by decide) e)
          have e2 : (new ++ [(⟨c.sn, c.dt, S5, c5, D6, c6⟩ : CA)] ++ o.cl.drop (k + 1)).length = (new ++ o.cl.drop k).length := by rw [HD.out]; simp
          rw [e2]
          exact this
        · exact h6.bel.grown hgr.1 h6.bel.size (fun k2 e => by injection e with e; subst e; exact (h6.own.cU _ (by simp [rowOf, Value.ownBlock])).1)
      rw [HNL.out] at hNew
      have HNEW := Lib.hid hNew
      clear hNew hst hP hcN hbA6 hv5 hv6 hb5 hb5' hb6 hS HC KN KC HLA HOK HWA HGX HROW
      refine wp_store_mid 79 (.tmp 39) (.tmp 38) rfl r (k * 2) #[.slice S5 c.sn.length c5, .slice D6 c.dt.length c6] rfl rfl hth (by kernel_rfl) (by simp [Value.oneCell']) ?_
      refine NoPanic.normal ?_
      simp only [Act.put, List.getElem_toArray, List.getElem_cons_succ, List.getElem_cons_zero, List.setIfInBounds_toArray, List.set_cons_zero, List.set_cons_succ]
      have HW7 := HNEW
      generalize w6.setCells r (k * 2) [.slice S5 c.sn.length c5, .slice D6 c.dt.length c6] = w7 at HW7 ⊢
      clear hth K6 HNEW HD HL
      go_wp2
      go_roundw
      case rel =>
        refine ⟨k + 1, _, by omega, by go_num, ?_, HW7.out⟩
        rw [List.map_append, HNW.out, take_snocI hcl, List.map_append]
        rfl
      case measure => simp [intOf]; omega
    · obtain rfl : k = o.cl.length := by omega
      have hd0 : o.cl.drop o.cl.length = [] := List.drop_length
      have hL := HL.out
      rw [hd0] at hL
      have K9 : Blk wo (w.heap.size + 1) 36 [Value.bool o.th, .slice D2 o.dt.length c2, .int .i64 o.sq, .slice C3 o.cl.length c3].toArray := by
        have := hL.blk
        simpa [HNL.out] using this
      obtain ⟨Z, hZ, hZs⟩ := hL.res
      have hv : (OA.v ⟨o.th, o.dt, D2, c2, o.sq, C3, c3, new⟩) = o.v := by
        have h1 := HNW.out
        rw [List.take_of_length_le (Nat.le_refl _)] at h1
        simp only [OA.v, OA.vs, h1]
      have HFIN : Hid (∀ w', Only [w.heap.size] wo w' → LikeTo w o (.returned (.agg #[.bool o.th, .slice D2 o.dt.length c2, .int .i64 o.sq, .slice C3 o.cl.length c3])) w') := Lib.hid fun w' ho => by
        refine ⟨⟨o.th, o.dt, D2, c2, o.sq, C3, c3, new⟩, hv, HSM.out.of_v hv, hL.own.typed fun k t cs hb ht => ho.block k hb.lt (fun hm => ?_), ?_, hL.bel.trans (ho.below (B := w.heap.size) (fun k hk => by simp at hk; omega) hL.bel.size)⟩
        · simp at hm
          subst hm
          refine hb.ne_ hZ ?_ rfl
          rcases ht with rfl | rfl | rfl <;> decide
        · simp [OA.cs, HNL.out]
      have HZ := Lib.hid (And.intro hZ hZs)
      clear hL hv hd0 HL HNW HNL HL0 hZ hZs
      go_wp2_with (first
        | (have _h := K9; refine wpList_loadq rfl 36 (.tmp 3) rfl (w.heap.size + 1) [Value.bool o.th, .slice D2 o.dt.length c2, .int .i64 o.sq, .slice C3 o.cl.length c3] _ rfl K9 Try.underlying36 rfl (by kernel_rfl) ?_; clear _h K9)
        | (refine wpList_storeq rfl 36 (.tmp 2) (.tmp 41) rfl w.heap.size Z [Value.bool o.th, .slice D2 o.dt.length c2, .int .i64 o.sq, .slice C3 o.cl.length c3] rfl rfl HZ.out.1 (by rw [HZ.out.2]; rfl) (by kernel_rfl) (fun v hv => by simp at hv; rcases hv with rfl | rfl | rfl | rfl <;> rfl) ?_; intro w5 K5 ho5 hs5))
      refine bodyPost_ret (results_cell_row rfl _ _ w.heap.size 36 #[.bool o.th, .slice D2 o.dt.length c2, .int .i64 o.sq, .slice C3 o.cl.length c3] (0, 0) _ rfl K5 Try.underlying36 rfl (by kernel_rfl)) rfl ?_
      exact HFIN.out _ ho5
end Go.Proofs.Ytjepfeagbiceoaa
