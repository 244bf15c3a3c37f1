/-
  The same object, of its own memory. Conditions: the object lies where it is said to, and is small.
-/
import Derived.Test.YteghbfkkpnlilaaZb
import Derived.Deep.CutRange
import Derived.Laws.ResultCell
import Derived.Lib.AppendZerosOnto
import Derived.Lib.SliceRun
import Derived.Laws.CopyRow

namespace Go.Proofs.Yteghbfkkpnlilaa
open Go.RowKit
set_option linter.unusedSimpArgs false
set_option linter.unusedVariables false
set_option maxRecDepth 100000
theorem run_store_cell {P : Program} (w : World) (g i : Nat) (ty : TypeId) (v : Value) (ht : w.there g i 1) (hi : (P.info? ty).map (·.size) = some 1) (h1 : v.oneCell' = true) :
    (storeVar ty ⟨g, i, none⟩ v).run P w = .ok () (w.setCell ⟨g, i, none⟩ v) := by
  have := run_storeCells_cells (P := P) g i [v] 0 w (fun j hj => by simpa using (ht j (by simpa using hj)).1) (fun j hj => by simpa using (ht j (by simpa using hj)).2) (fun u hu => by simp at hu; subst hu; exact h1)
  have hc : v.cells = #[v] := by cases v <;> first | rfl | cases h1
  cases hq : P.info? ty with
  | none => simp [hq] at hi
  | some i0 =>
    have hs : i0.size = 1 := by simpa [hq] using hi
    simp only [Nat.add_zero] at this
    simp [storeVar, sizeOf, typeInfo, hq, hc, hs, this, World.setCells]
section
variable {P : Program} {ops : Array Oper} {rest : List Oper} {o : Oper} {a : Act} {w : World} {Q : Exit → Act → World → Prop}
theorem wp_setq {K : Act → World → Prop} (ty : TypeId) (x y : Operand) (ho : o.op = .store ty x y)
    (g i : Nat) (t : TypeId) (cs : Array Value) (v : Value) (hx : a.eval x = .pointer (some ⟨g, i, none⟩)) (hy : a.eval y = v) (hB : Blk w g t cs) (hs : i < cs.size) (hi : (P.info? ty).map (·.size) = some 1) (h1 : v.oneCell' = true)
    (h : ∀ w', Blk w' g t (cs.setIfInBounds i v) → Only [g] w w' → w'.heap.size = w.heap.size → K (a.put o.dst undef) w') : o.wp P a w K Q := by
  unfold Oper.wp execOp
  simp only [ho, hx, hy, Instr.storeAt, Instr.sureAddr, Sem.run_bind, Sem.run_pure, Result.andThen_ok, run_store_cell w g i ty v (hB.there (by omega)) hi h1]
  exact h _ (hB.set_ i v) ((Only.refl _ _).setCell (.inl (by simp)) _) (by simp [World.setCell])
theorem wpList_setq (hgd : o.guard = none) (ty : TypeId) (x y : Operand) (ho : o.op = .store ty x y)
    (g i : Nat) (t : TypeId) (cs : Array Value) (v : Value) (hx : a.eval x = .pointer (some ⟨g, i, none⟩)) (hy : a.eval y = v) (hB : Blk w g t cs) (hs : i < cs.size) (hi : (P.info? ty).map (·.size) = some 1) (h1 : v.oneCell' = true)
    (h : ∀ w', Blk w' g t (cs.setIfInBounds i v) → Only [g] w w' → w'.heap.size = w.heap.size → wpList P ops Q rest (a.put o.dst undef) w') : wpList P ops Q (o :: rest) a w :=
  wpList_plain hgd fun _ hK => wp_setq ty x y ho g i t cs v hx hy hB hs hi h1 fun w' h1 h2 h3 => hK _ _ (h w' h1 h2 h3)
theorem wpList_storeq (hgd : o.guard = none) (ty : TypeId) (x y : Operand) (ho : o.op = .store ty x y)
    (g : Nat) (cs : Array Value) (vs : List Value) (hx : a.eval x = .pointer (some ⟨g, 0, none⟩)) (hy : a.eval y = .agg vs.toArray) (hB : Blk w g ty cs) (hs : vs.length = cs.size) (hi : (P.info? ty).map (·.size) = some vs.length) (h1 : ∀ v ∈ vs, v.oneCell' = true)
    (h : ∀ w', Blk w' g ty vs.toArray → Only [g] w w' → w'.heap.size = w.heap.size → wpList P ops Q rest (a.put o.dst undef) w') : wpList P ops Q (o :: rest) a w :=
  wpList_store_mid hgd ty x y ho g 0 vs.toArray hx hy (hB.there (by simp [hs])) (by simpa using hi) (all_oneCell_toArray h1)
    (h _ (by simpa using hB.over vs hs) ((Only.refl _ _).grown (by simpa using (setCells_grown g vs 0 w).1) (fun k e => .inl (by injection e with e; simp [e]))) (by simpa using (setCells_grown g vs 0 w).2))
theorem wpList_loadq (hgd : o.guard = none) (ty : TypeId) (x : Operand) (ho : o.op = .load ty x)
    (g : Nat) (cs : List Value) (d : TypeDesc) (hx : a.eval x = .pointer (some ⟨g, 0, none⟩)) (hB : Blk w g ty cs.toArray) (hu : P.underlying ty = some d) (hd : d.isRow = true) (hi : (P.info? ty).map (·.size) = some cs.length)
    (h : wpList P ops Q rest (a.put o.dst (.agg cs.toArray)) w) : wpList P ops Q (o :: rest) a w :=
  wpList_load_mid hgd ty x ho g 0 hx cs d hB.range hu hd hi h
end
theorem Blk.only {F : List Nat} {w w' : World} {g : Nat} {t : TypeId} {cs : Array Value} (h : Blk w g t cs) (ho : Only F w w') (hn : g ∉ F) : Blk w' g t cs := h.of (ho.block g h.lt hn)
theorem OA.cs_one (o : OA) : ∀ v ∈ [Value.bool o.th, .slice o.D o.dt.length o.cd, .int .i64 o.sq, .slice o.C o.cl.length o.cc], v.oneCell' = true := by
  intro v hv
  simp at hv
  rcases hv with rfl | rfl | rfl | rfl <;> rfl
def LikeTo (w : World) (o : OA) (e : Ending) (w' : World) : Prop := ∃ o' : OA, o'.v = o.v ∧ o'.Sm ∧ o'.N w' w.heap.size ∧ e = .returned (.agg o'.cs) ∧ Below w.heap.size w w'
theorem OA.Sm.of_v {o o' : OA} (h : o.Sm) (e : o'.v = o.v) : o'.Sm := by
  have e1 : o'.dt = o.dt := congrArg OV.dt e
  have e2 : o'.vs = o.vs := congrArg OV.cl e
  refine ⟨by rw [e1]; exact h.dt, by rw [← OA.vs_len, e2, OA.vs_len]; exact h.cn, fun c hc => ?_⟩
  have : c.v ∈ o'.vs := List.mem_map.2 ⟨c, hc, rfl⟩
  rw [e2] at this
  obtain ⟨c', hc', e3⟩ := List.mem_map.1 this
  have h1 := h.cl c' hc'
  have e4 : c'.sn = c.sn := congrArg ClV.sn e3
  have e5 : c'.dt = c.dt := congrArg ClV.dt e3
  rw [← e4, ← e5]
  exact h1
structure Liking (w : World) (o : OA) (q : OA) (rest : List CA) (wr : World) : Prop where
  blk : Blk wr (w.heap.size + 1) 36 #[.bool q.th, .slice q.D q.dt.length q.cd, .int .i64 q.sq, .slice q.C (q.cl ++ rest).length q.cc]
  res : ∃ Z : Array Value, Blk wr w.heap.size 36 Z ∧ Z.size = 4
  own : q.P rest wr w.heap.size
  bel : Below w.heap.size w wr
theorem Liking.next {w wr wr' : World} {o q : OA} {rest : List CA} (h : Liking w o q rest wr) (hb : Below wr.heap.size wr wr') : Liking w o q rest wr' := by
  obtain ⟨Z, hZ, hs⟩ := h.res
  exact ⟨h.blk.of (hb.block _ h.blk.lt), ⟨Z, hZ.of (hb.block _ hZ.lt), hs⟩, h.own.below hb, h.bel.trans (hb.mono h.bel.size)⟩
set_option maxHeartbeats 8000000 in
theorem like_any {w : World} {g : Nat} (o : OA) (hg : Blk w g 36 o.cs) (h : o.R w) (hS : o.Sm) : Calls Try.prog 68 #[.pointer (some ⟨g, 0, none⟩)] w (LikeTo w o) := by
  have H := Lib.hid h
  have HSM := Lib.hid hS
  have HG := Lib.hid hg
  have hba : Below w.heap.size w (w.alloc (.cells #[.bool false, .slice none 0 0, .int .i64 0, .slice none 0 0] 36)) := below_alloc w _
  have hbc : Below w.heap.size w ((w.alloc (.cells #[.bool false, .slice none 0 0, .int .i64 0, .slice none 0 0] 36)).alloc (.cells o.cs 36)) := hba.alloc (by simp) _
  have K0 : Blk ((w.alloc (.cells #[.bool false, .slice none 0 0, .int .i64 0, .slice none 0 0] 36)).alloc (.cells o.cs 36)) w.heap.size 36 #[.bool false, .slice none 0 0, .int .i64 0, .slice none 0 0] := (Blk.new w _ _).alloc _
  have K1 : Blk ((w.alloc (.cells #[.bool false, .slice none 0 0, .int .i64 0, .slice none 0 0] 36)).alloc (.cells o.cs 36)) (w.heap.size + 1) 36 o.cs := by
    have := Blk.new (w.alloc (.cells #[.bool false, .slice none 0 0, .int .i64 0, .slice none 0 0] 36)) 36 o.cs
    simpa using this
  have KG : Blk ((w.alloc (.cells #[.bool false, .slice none 0 0, .int .i64 0, .slice none 0 0] 36)).alloc (.cells o.cs 36)) g 36 o.cs := (hg.alloc _).alloc _
  have hR1 : o.R ((w.alloc (.cells #[.bool false, .slice none 0 0, .int .i64 0, .slice none 0 0] 36)).alloc (.cells o.cs 36)) := h.since hbc
  have hG1 : Blk (w.alloc (.cells #[.bool false, .slice none 0 0, .int .i64 0, .slice none 0 0] 36)) g 36 [Value.bool o.th, .slice o.D o.dt.length o.cd, .int .i64 o.sq, .slice o.C o.cl.length o.cc].toArray := hg.alloc _
  have HW := Lib.hid (And.intro hbc (And.intro K0 (And.intro K1 (And.intro KG hR1))))
  have hgl := hg.lt
  clear hba hbc K0 K1 KG hR1 h hS hg
  unfold OA.cs at HW
  go_enter Try.func68, Try.ntmps68
  go_upto_region 2 with (refine wpList_loadq rfl 36 (.tmp 7) rfl g [Value.bool o.th, .slice o.D o.dt.length o.cd, .int .i64 o.sq, .slice o.C o.cl.length o.cc] _ rfl hG1 Try.underlying36 rfl (by kernel_rfl) ?_)
  obtain ⟨w0, hw0⟩ : ∃ w0, w0 = (w.alloc (.cells #[.bool false, .slice none 0 0, .int .i64 0, .slice none 0 0] 36)).alloc (.cells #[.bool o.th, .slice o.D o.dt.length o.cd, .int .i64 o.sq, .slice o.C o.cl.length o.cc] 36) := ⟨_, rfl⟩
  rw [← hw0] at HW ⊢
  clear hw0 hG1
  have hC1 := HW.out.2.2.2.1.cell 1
  have hC3 := HW.out.2.2.2.1.cell 3
  have hs := HSM.out.dt
  have HCL := Lib.hid (clone_any o.D o.dt.length o.cd o.dt w0 _ (by omega) HW.out.2.2.2.2.dt)
  go_wp2_with fail
  refine HCL.out.mono ?_
  rintro e w1 ⟨v1, rfl, hv1, hb1⟩
  obtain ⟨D2, c2, rfl, -⟩ := hv1.form
  have HV1 := Lib.hid hv1
  have K1 := HW.out.2.2.1.of (hb1.block _ HW.out.2.2.1.lt)
  have HB1 := Lib.hid hb1
  clear hv1 hb1 HCL hC1 hC3
  go_upto_region 3 with (have _h := K1; refine wpList_setq rfl 22 (.tmp 14) (.tmp 13) rfl (w.heap.size + 1) 1 36 _ (.slice D2 o.dt.length c2) rfl rfl K1 (by simp) (by kernel_rfl) rfl ?_; clear _h K1; intro w2 K2 ho2 hs2)
  have hb02 : Below w.heap.size w w2 := HW.out.1.trans ((HB1.out.mono (by have := HW.out.1.size; omega)).trans (ho2.below (B := w.heap.size) (fun k hk => by simp at hk; omega) (by have := HW.out.1.size; have := HB1.out.size; omega)))
  have hR2 := H.out.since hb02
  have KG2 := HG.out.of (hb02.block _ hgl)
  have hC3 : w2.cell? ⟨g, 3, none⟩ = some (.slice o.C o.cl.length o.cc) := KG2.cell 3
  have hsn := HSM.out.cn
  have HV2 : Hid (Own w2 w.heap.size (.slice D2 o.dt.length c2) o.dt.length o.dt) := Lib.hid (Own.weaken (base := w0.heap.size) (row_of HV1.out fun k hk => ho2.block k (row_under HV1.out k hk) (fun hm => by simp at hm; subst hm; obtain ⟨cs, hb⟩ := own_ty HV1.out hk; exact hb.ne_ (HW.out.2.2.1.of (HB1.out.block _ HW.out.2.2.1.lt)) (by decide) rfl)) HW.out.1.size)
  have KR2 : Hid (Blk w2 w.heap.size 36 #[.bool false, .slice none 0 0, .int .i64 0, .slice none 0 0]) := Lib.hid ((HW.out.2.1.of (HB1.out.block _ HW.out.2.1.lt)).only ho2 (by simp))
  have HB2 := Lib.hid (And.intro hb02 hR2)
  have HCC := Lib.hid (cclone_any (c := o.cc) (by omega) hR2.row)
  have HK2 := Lib.hid K2
  clear ho2 hs2 HV1 HB1 HW hb02 hR2 KG2 K2
  go_wp2_with fail
  refine HCC.out.mono ?_
  rintro e w3 ⟨C3, c3, rfl, hv3, hb3⟩
  have K3 := HK2.out.of (hb3.block _ HK2.out.lt)
  have HV3 := Lib.hid (And.intro hv3 hb3)
  clear hv3 hb3 HCC hC3
  go_upto_region 4 with (have _h := K3; refine wpList_setq rfl 34 (.tmp 20) (.tmp 19) rfl (w.heap.size + 1) 3 36 _ (.slice C3 o.cl.length c3) rfl rfl K3 (by simp) (by kernel_rfl) rfl ?_; clear _h K3; intro w4 K4 ho4 hs4)
  have K4' : Blk w4 (w.heap.size + 1) 36 #[.bool o.th, .slice D2 o.dt.length c2, .int .i64 o.sq, .slice C3 o.cl.length c3] := by simpa using K4
  have hsz2 := HB2.out.1.size
  have hsz3 := HV3.out.2.size
  have hn2 : w.heap.size + 1 < w2.heap.size := HK2.out.lt
  have hL0 : Liking w o ⟨o.th, o.dt, D2, c2, o.sq, C3, c3, []⟩ o.cl w4 := by
    have K3' := HK2.out.of (HV3.out.2.block _ HK2.out.lt)
    refine ⟨by simpa using K4', ⟨_, (KR2.out.of (HV3.out.2.block _ KR2.out.lt)).only ho4 (by simp), rfl⟩, ⟨?_, HB2.out.2.dt.2, ?_, fun c hc => (by cases hc), HB2.out.2.q1, HB2.out.2.q2, List.pairwise_singleton _ _, List.Pairwise.nil⟩, ?_⟩
    · have h3 := HV2.out.below HV3.out.2
      exact row_of h3 fun k hk => ho4.block k (row_under h3 k hk) (fun hm => by simp at hm; subst hm; obtain ⟨cs, hb⟩ := own_ty h3 hk; exact hb.ne_ K3' (by decide) rfl)
    · have h3 : OwnC 79 w3 w.heap.size (.slice C3 o.cl.length c3) o.cl := row_weaken HV3.out.1 HB2.out.1.size
      exact row_of h3 fun k hk => ho4.block k (row_under h3 k hk) (fun hm => by simp at hm; subst hm; obtain ⟨cs, hb⟩ := own_ty h3 hk; exact hb.ne_ K3' (by decide) rfl)
    · exact (HB2.out.1.trans (HV3.out.2.mono HB2.out.1.size)).trans (ho4.below (B := w.heap.size) (fun k hk => by simp at hk; omega) (by omega))
  have HL0 := Lib.hid hL0
  have hC3 : w4.cell? ⟨w.heap.size + 1, 3, none⟩ = some (.slice C3 o.cl.length c3) := K4'.cell 3
  have hcl4 := H.out.c1
  clear hL0 K4 K4' ho4 hs4 HV2 KR2 HB2 HV3 HK2 hsz2 hsz3 hn2
  go_wp2
  go_loopw [24] (fun i wr => ∃ (k : Nat) (new : List CA), k ≤ o.cl.length ∧ i = .int .i64 k ∧ new.map CA.v = (o.cl.take k).map CA.v ∧ Liking w o ⟨o.th, o.dt, D2, c2, o.sq, C3, c3, new⟩ (o.cl.drop k) wr) (fun i _ => o.cl.length - (intOf i).toNat)
  case atStart => exact ⟨0, [], by omega, rfl, rfl, HL0.out⟩
  case round =>
    obtain ⟨k, new, hk, rfl, hnew, hL⟩ := hrel
    have HNW := Lib.hid hnew
    have HL := Lib.hid hL
    have hnl : new.length = k := by
      have := congrArg List.length hnew
      simp at this
      omega
    have HNL := Lib.hid hnl
    clear hnew hL hC3 hnl
    obtain ⟨wo, hwo⟩ : ∃ wo, wo = wr := ⟨_, rfl⟩
    subst hwo
    by_cases hlt : k < o.cl.length
    · have hwk : IntKind.i64.wrap ((k : Int) + 1) = (k : Int) + 1 := by rw [IntKind.wrap_i64]; omega
      obtain ⟨c, hcl⟩ : ∃ c, o.cl[k]? = some c := ⟨_, List.getElem?_eq_getElem hlt⟩
      have hdrop : o.cl.drop k = c :: o.cl.drop (k + 1) := by
        rw [List.drop_eq_getElem_cons hlt, (List.getElem?_eq_some_iff.1 hcl).2]
      have hrow := HL.out.own.row
      rw [hdrop] at hrow
      obtain ⟨r, hr⟩ : ∃ r, C3 = some ⟨r, 0, none⟩ := by
        obtain ⟨-, -, -, h | ⟨b, h, -⟩⟩ := own_shape hrow
        · exfalso
          have h2 := hrow.2
          rcases h2 with ⟨_, h0⟩ | ⟨g2, cap2, cur2, e2, _⟩
          · simp at h0
          · injection e2 with e2
            simp only at h
            rw [h] at e2
            cases e2
        · exact ⟨b, h⟩
      subst hr
      have hlen : (new ++ o.cl.drop k).length = o.cl.length := by simp; have := HNL.out; omega
      have hget : (new ++ c :: o.cl.drop (k + 1))[k]? = some c := by
        rw [List.getElem?_append_right (by have := HNL.out; omega), HNL.out, Nat.sub_self]
        rfl
      have hrd := Reads.of_own hrow
      have hc : ∀ j v, c.cells[j]? = some v → wo.cell? ((⟨r, 0, none⟩ : Addr).add (k * 2 + j)) = some v := fun j v hj => by
        obtain ⟨ad, e, hb, hcc⟩ := hrd.2 (by simp only [List.length_append, List.length_cons]; omega)
        injection e with e
        subst e
        have hj2 : j < 2 := by have := (List.getElem?_eq_some_iff.1 hj).1; rwa [CA.cells_len] at this
        exact hcc _ v (by rw [flat_at CA.cells 2 CA.cells_len _ k j c hget hj2]; exact hj)
      have hc' : ∀ j v, c.cells[j]? = some v → wo.cell? ((⟨r, k * 2, none⟩ : Addr).add j) = some v := fun j v hj => by
        have := hc j v hj
        rw [add_zero_off] at this
        have e : (⟨r, k * 2, none⟩ : Addr).add j = ⟨r, k * 2 + j, none⟩ := by unfold Addr.add; split <;> simp_all
        rw [e]
        exact this
      have HD := Lib.hid hdrop
      have HROW := Lib.hid hrow
      clear hdrop hrow hrd hc
      have hcd := hc'
      clear hc'
      have hrl : r < wo.heap.size := (World.ownsRow.lt HROW.out r rfl).2
      have hCc := H.out.c2
      go_upto_region 7 with (have _h := hcd; refine wpList_load_scl rfl (.tmp 27) rfl _ rfl c hcd ?_; clear _h hcd)
      obtain ⟨wA, hwA⟩ : ∃ wA, wA = wo.alloc (.cells #[.slice c.S c.sn.length c.cs, .slice c.D c.dt.length c.cd] 79) := ⟨_, rfl⟩
      have hbA : Below wo.heap.size wo wA := by rw [hwA]; exact below_alloc wo _
      have KC : Blk wA wo.heap.size 79 #[.slice c.S c.sn.length c.cs, .slice c.D c.dt.length c.cd] := by rw [hwA]; exact Blk.new wo _ _
      have hLA := HL.out.next hbA
      have KN : Blk wA (w.heap.size + 1) 36 #[.bool o.th, .slice D2 o.dt.length c2, .int .i64 o.sq, .slice (some ⟨r, 0, none⟩) o.cl.length c3] := by have := hLA.blk; simpa only [hlen] using this
      have HLA := Lib.hid hLA
      have hcok := (H.out.since hLA.bel).cl c (List.mem_of_getElem? hcl)
      have hcs := HSM.out.cl c (List.mem_of_getElem? hcl)
      have HOK := Lib.hid (And.intro hcok hcs)
      rw [← hwA]
      have HWA := Lib.hid (And.intro hwA hbA)
      clear hwA hbA hLA hcok hcs
      obtain ⟨gx, hgx⟩ : ∃ gx, gx = wo.heap.size := ⟨_, rfl⟩
      rw [← hgx] at KC ⊢
      have HGX := Lib.hid hgx
      clear hgx
      have HC : Hid (∀ w', (Blk w' (w.heap.size + 1) 36 #[.bool o.th, .slice D2 o.dt.length c2, .int .i64 o.sq, .slice (some ⟨r, 0, none⟩) o.cl.length c3] ∧ Blk w' gx 79 #[.slice c.S c.sn.length c.cs, .slice c.D c.dt.length c.cd]) → w'.cell? ⟨w.heap.size + 1, 3, none⟩ = some (.slice (some ⟨r, 0, none⟩) o.cl.length c3) ∧ w'.cell? ⟨gx, 0, none⟩ = some (.slice c.S c.sn.length c.cs) ∧ w'.cell? ⟨gx, 1, none⟩ = some (.slice c.D c.dt.length c.cd)) := Lib.hid fun w' h => ⟨h.1.cell 3, h.2.cell 0, h.2.cell 1⟩
      have hS : Blk wA.drew (w.heap.size + 1) 36 #[.bool o.th, .slice D2 o.dt.length c2, .int .i64 o.sq, .slice (some ⟨r, 0, none⟩) o.cl.length c3] ∧ Blk wA.drew gx 79 #[.slice c.S c.sn.length c.cs, .slice c.D c.dt.length c.cd] := ⟨KN.drew, KC.drew⟩
      refine any_beginL (fun w' => Blk w' (w.heap.size + 1) 36 #[.bool o.th, .slice D2 o.dt.length c2, .int .i64 o.sq, .slice (some ⟨r, 0, none⟩) o.cl.length c3] ∧ Blk w' gx 79 #[.slice c.S c.sn.length c.cs, .slice c.D c.dt.length c.cd]) 11 (by kernel_rfl) ?_
      refine L_take (i := 0) (v := .pointer (some ⟨w.heap.size + 1, 3, none⟩)) rfl rfl (by kernel_rfl) (by kernel_rfl) (by kernel_rfl) (by kernel_rfl) (fun _ _ _ h => h) (Or.inl ⟨by rfl, fun w hw => by go_simp⟩) hS ?_
      simp only [Act.put, List.getElem_toArray, List.getElem_cons_succ, List.getElem_cons_zero, List.setIfInBounds_toArray, List.set_cons_zero, List.set_cons_succ]
      refine L_take (i := 1) (v := .slice (some ⟨r, 0, none⟩) o.cl.length c3) rfl rfl (by kernel_rfl) (by kernel_rfl) (by kernel_rfl) (by kernel_rfl) (fun _ _ _ h => h) (Or.inl ⟨by rfl, fun w hw => by have q := (HC.out w hw).1; go_simp⟩) hS ?_
      simp only [Act.put, List.getElem_toArray, List.getElem_cons_succ, List.getElem_cons_zero, List.setIfInBounds_toArray, List.set_cons_zero, List.set_cons_succ]
      refine L_take (i := 2) (v := .int .i64 k) rfl rfl (by kernel_rfl) (by kernel_rfl) (by kernel_rfl) (by kernel_rfl) (fun _ _ _ h => h) (Or.inl ⟨by rfl, fun w hw => by kernel_rfl⟩) hS ?_
      simp only [Act.put, List.getElem_toArray, List.getElem_cons_succ, List.getElem_cons_zero, List.setIfInBounds_toArray, List.set_cons_zero, List.set_cons_succ]
      refine L_take (i := 3) (v := .pointer (some ⟨gx, 0, none⟩)) rfl rfl (by kernel_rfl) (by kernel_rfl) (by kernel_rfl) (by kernel_rfl) (fun _ _ _ h => h) (Or.inl ⟨by rfl, fun w hw => by go_simp⟩) hS ?_
      simp only [Act.put, List.getElem_toArray, List.getElem_cons_succ, List.getElem_cons_zero, List.setIfInBounds_toArray, List.set_cons_zero, List.set_cons_succ]
      refine L_take (i := 4) (v := .slice c.S c.sn.length c.cs) rfl rfl (by kernel_rfl) (by kernel_rfl) (by kernel_rfl) (by kernel_rfl) (fun _ _ _ h => h) (Or.inl ⟨by rfl, fun w hw => by have q := (HC.out w hw).2.1; go_simp⟩) hS ?_
      simp only [Act.put, List.getElem_toArray, List.getElem_cons_succ, List.getElem_cons_zero, List.setIfInBounds_toArray, List.set_cons_zero, List.set_cons_succ]
      refine L_take (i := 6) (v := .pointer (some ⟨gx, 1, none⟩)) rfl rfl (by kernel_rfl) (by kernel_rfl) (by kernel_rfl) (by kernel_rfl) (fun _ _ _ h => h) (Or.inl ⟨by rfl, fun w hw => by go_simp⟩) hS ?_
      simp only [Act.put, List.getElem_toArray, List.getElem_cons_succ, List.getElem_cons_zero, List.setIfInBounds_toArray, List.set_cons_zero, List.set_cons_succ]
      refine L_take (i := 7) (v := .slice c.D c.dt.length c.cd) rfl rfl (by kernel_rfl) (by kernel_rfl) (by kernel_rfl) (by kernel_rfl) (fun _ _ _ h => h) (Or.inl ⟨by rfl, fun w hw => by have q := (HC.out w hw).2.2; go_simp⟩) hS ?_
      simp only [Act.put, List.getElem_toArray, List.getElem_cons_succ, List.getElem_cons_zero, List.setIfInBounds_toArray, List.set_cons_zero, List.set_cons_succ]
      have hzA : wA.drew.heap.size = wA.heap.size := rfl
      have hrA : HLA.out = HLA.out := rfl
      clear hrA
      refine L_one (j := 5) (by kernel_rfl) rfl (by rfl) ?_
      simp only [Act.put, List.getElem_toArray, List.getElem_cons_succ, List.getElem_cons_zero, List.setIfInBounds_toArray, List.set_cons_zero, List.set_cons_succ]
      refine wp_called (by kernel_rfl) (iclone_any (l := c.sn) (c := c.cs) (w := wA.drew) (B := wA.heap.size) (by have := HOK.out.2.1; omega) HOK.out.1.sn.drew) ?_
      rintro e w5 ⟨S5, c5, rfl, hv5, hb5⟩
      have hb5' : Below wA.heap.size wA w5 := below_drew' hb5
      refine ⟨_, rfl, ⟨KN.of (hb5'.block _ KN.lt), KC.of (hb5'.block _ KC.lt)⟩, ?_⟩
      simp only [Act.put, List.getElem_toArray, List.getElem_cons_succ, List.getElem_cons_zero, List.setIfInBounds_toArray, List.set_cons_zero, List.set_cons_succ]
      refine L_one (j := 8) (by kernel_rfl) rfl (by rfl) ?_
      simp only [Act.put, List.getElem_toArray, List.getElem_cons_succ, List.getElem_cons_zero, List.setIfInBounds_toArray, List.set_cons_zero, List.set_cons_succ]
      refine wp_called (by kernel_rfl) (clone_any c.D c.dt.length c.cd c.dt w5 _ (by have := HOK.out.2.2; omega) ((HOK.out.1.since hb5').dt)) ?_
      rintro e w6 ⟨v6, rfl, hv6, hb6⟩
      obtain ⟨D6, c6, rfl, -⟩ := hv6.form
      have K6 := And.intro ((KN.of (hb5'.block _ KN.lt)).of (hb6.block _ (KN.of (hb5'.block _ KN.lt)).lt)) ((KC.of (hb5'.block _ KC.lt)).of (hb6.block _ (KC.of (hb5'.block _ KC.lt)).lt))
      refine ⟨_, rfl, K6, ?_⟩
      simp only [Act.put, List.getElem_toArray, List.getElem_cons_succ, List.getElem_cons_zero, List.setIfInBounds_toArray, List.set_cons_zero, List.set_cons_succ]
      refine L_one (j := 9) (by kernel_rfl) rfl (by rfl) ?_
      simp only [Act.put, List.getElem_toArray, List.getElem_cons_succ, List.getElem_cons_zero, List.setIfInBounds_toArray, List.set_cons_zero, List.set_cons_succ]
      refine wp_ran (v := .agg #[.slice S5 c.sn.length c5, .slice D6 c.dt.length c6]) (w' := w6) (by kernel_rfl) ⟨K6, ?_⟩
      simp only [Act.put, List.getElem_toArray, List.getElem_cons_succ, List.getElem_cons_zero, List.setIfInBounds_toArray, List.set_cons_zero, List.set_cons_succ]
      refine L_one (j := 10) (by kernel_rfl) rfl (by rfl) ?_
      simp only [Act.put, List.getElem_toArray, List.getElem_cons_succ, List.getElem_cons_zero, List.setIfInBounds_toArray, List.set_cons_zero, List.set_cons_succ]
      refine wp_ran (v := .pointer (some ⟨r, k * 2, none⟩)) (w' := w6) (by go_simp) ⟨K6, ?_⟩
      simp only [Act.put, List.getElem_toArray, List.getElem_cons_succ, List.getElem_cons_zero, List.setIfInBounds_toArray, List.set_cons_zero, List.set_cons_succ]
      refine L_last (by kernel_rfl) rfl (by rfl) (by kernel_rfl) ?_
      simp only [Act.put, List.getElem_toArray, List.getElem_cons_succ, List.getElem_cons_zero, List.setIfInBounds_toArray, List.set_cons_zero, List.set_cons_succ]
      have hbA6 : Below wA.heap.size wA w6 := hb5'.trans (hb6.mono hb5'.size)
      have hcN : CA.N ⟨c.sn, c.dt, S5, c5, D6, c6⟩ w6 wA.heap.size := ⟨OwnI.below hv5 hb6, Own.weaken hv6 (by have := hb5'.size; omega), HOK.out.1.dt.2, HOK.out.1.i1⟩
      have hP := HLA.out.own
      rw [HD.out] at hP
      have hst := OA.P.step hP hbA6 hcN rfl (by have := HLA.out.bel.size; omega)
      have hth : w6.there r (k * 2) 2 := by
        obtain ⟨cs, hcs⟩ := ((hP.below hbA6).cU r (by simp [rowOf, Value.ownBlock])).2.2
        have hrow6 := (hP.below hbA6).row
        rcases hrow6.2 with ⟨h, _⟩ | ⟨g9, cap9, cur9, e9, _, hh9, hn9, _, hs9, _⟩
        · cases h
        · injection e9 with e9 _ _
          injection e9 with e9
          injection e9 with e9
          subst e9
          refine (show Blk w6 _ 79 cur9 from hh9).there ?_
          rw [hs9]
          have : (new ++ c :: o.cl.drop (k + 1)).length = o.cl.length := by rw [← HD.out]; exact hlen
          simp only at hn9
          omega
      have hNew : Liking w o ⟨o.th, o.dt, D2, c2, o.sq, some ⟨r, 0, none⟩, c3, new ++ [⟨c.sn, c.dt, S5, c5, D6, c6⟩]⟩ (o.cl.drop (k + 1)) (w6.setCells r (new.length * 2) [.slice S5 c.sn.length c5, .slice D6 c.dt.length c6]) := by
        have h6 := HLA.out.next hbA6
        obtain ⟨csr, hcr⟩ := (h6.own.cU r (by simp [rowOf, Value.ownBlock])).2.2
        have hgr := (setCells_grown r [.slice S5 c.sn.length c5, .slice D6 c.dt.length c6] (new.length * 2) w6)
        obtain ⟨Z, hZ, hZs⟩ := h6.res
        refine ⟨?_, ⟨Z, hZ.grown hgr.1 (fun e => by injection e with e; exact hZ.ne_ hcr (by decide) e), hZs⟩, hst, ?_⟩
        · have := h6.blk.grown hgr.1 (fun e => by injection e with e; exact h6.blk.ne_ hcr (by decide) e)
          have e2 : (new ++ [(⟨c.sn, c.dt, S5, c5, D6, c6⟩ : CA)] ++ o.cl.drop (k + 1)).length = (new ++ o.cl.drop k).length := by rw [HD.out]; simp
          rw [e2]
          exact this
        · exact h6.bel.grown hgr.1 h6.bel.size (fun k2 e => by injection e with e; subst e; exact (h6.own.cU _ (by simp [rowOf, Value.ownBlock])).1)
      rw [HNL.out] at hNew
      have HNEW := Lib.hid hNew
      clear hNew hst hP hcN hbA6 hv5 hv6 hb5 hb5' hb6 hS HC KN KC HLA HOK HWA HGX HROW
      refine wp_store_mid 79 (.tmp 39) (.tmp 38) rfl r (k * 2) #[.slice S5 c.sn.length c5, .slice D6 c.dt.length c6] rfl rfl hth (by kernel_rfl) (by simp [Value.oneCell']) ?_
      refine NoPanic.normal ?_
      simp only [Act.put, List.getElem_toArray, List.getElem_cons_succ, List.getElem_cons_zero, List.setIfInBounds_toArray, List.set_cons_zero, List.set_cons_succ]
      have HW7 := HNEW
      generalize w6.setCells r (k * 2) [.slice S5 c.sn.length c5, .slice D6 c.dt.length c6] = w7 at HW7 ⊢
      clear hth K6 HNEW HD HL
      go_wp2
      go_roundw
      case rel =>
        refine ⟨k + 1, _, by omega, by go_num, ?_, HW7.out⟩
        rw [List.map_append, HNW.out, take_snocI hcl, List.map_append]
        rfl
      case measure => simp [intOf]; omega
    · obtain rfl : k = o.cl.length := by omega
      have hd0 : o.cl.drop o.cl.length = [] := List.drop_length
      have hL := HL.out
      rw [hd0] at hL
      have K9 : Blk wo (w.heap.size + 1) 36 [Value.bool o.th, .slice D2 o.dt.length c2, .int .i64 o.sq, .slice C3 o.cl.length c3].toArray := by
        have := hL.blk
        simpa [HNL.out] using this
      obtain ⟨Z, hZ, hZs⟩ := hL.res
      have hv : (OA.v ⟨o.th, o.dt, D2, c2, o.sq, C3, c3, new⟩) = o.v := by
        have h1 := HNW.out
        rw [List.take_of_length_le (Nat.le_refl _)] at h1
        simp only [OA.v, OA.vs, h1]
      have HFIN : Hid (∀ w', Only [w.heap.size] wo w' → LikeTo w o (.returned (.agg #[.bool o.th, .slice D2 o.dt.length c2, .int .i64 o.sq, .slice C3 o.cl.length c3])) w') := Lib.hid fun w' ho => by
        refine ⟨⟨o.th, o.dt, D2, c2, o.sq, C3, c3, new⟩, hv, HSM.out.of_v hv, hL.own.typed fun k t cs hb ht => ho.block k hb.lt (fun hm => ?_), ?_, hL.bel.trans (ho.below (B := w.heap.size) (fun k hk => by simp at hk; omega) hL.bel.size)⟩
        · simp at hm
          subst hm
          refine hb.ne_ hZ ?_ rfl
          rcases ht with rfl | rfl | rfl <;> decide
        · simp [OA.cs, HNL.out]
      have HZ := Lib.hid (And.intro hZ hZs)
      clear hL hv hd0 HL HNW HNL HL0 hZ hZs
      go_wp2_with (first
        | (have _h := K9; refine wpList_loadq rfl 36 (.tmp 3) rfl (w.heap.size + 1) [Value.bool o.th, .slice D2 o.dt.length c2, .int .i64 o.sq, .slice C3 o.cl.length c3] _ rfl K9 Try.underlying36 rfl (by kernel_rfl) ?_; clear _h K9)
        | (refine wpList_storeq rfl 36 (.tmp 2) (.tmp 41) rfl w.heap.size Z [Value.bool o.th, .slice D2 o.dt.length c2, .int .i64 o.sq, .slice C3 o.cl.length c3] rfl rfl HZ.out.1 (by rw [HZ.out.2]; rfl) (by kernel_rfl) (fun v hv => by simp at hv; rcases hv with rfl | rfl | rfl | rfl <;> rfl) ?_; intro w5 K5 ho5 hs5))
      refine bodyPost_ret (results_cell_row rfl _ _ w.heap.size 36 #[.bool o.th, .slice D2 o.dt.length c2, .int .i64 o.sq, .slice C3 o.cl.length c3] (0, 0) _ rfl K5 Try.underlying36 rfl (by kernel_rfl)) rfl ?_
      exact HFIN.out _ ho5
end Go.Proofs.Yteghbfkkpnlilaa

/-
  What is done before an object changes. Conditions: the object lies where it is said to, and is of the call's own; the context reads as it is said to.
-/
namespace Go.Proofs.Yteghbfkkpnlilaa
open Go.RowKit Go.Shelf
attribute [local go_sem] Oper.semAt_some
set_option linter.unusedSimpArgs false
set_option linter.unusedVariables false
set_option maxRecDepth 100000
theorem row_noI {W : World} {base size : Nat} {e : TypeId} {v : Value} {n : Nat} {xs : List Value} (h : W.ownsRow base e size v n xs) {r : Nat} {o : Obj} (ho : W.heap[r]? = some o) (hc : o.isCells = false) : v.ownBlock ≠ some r := by
  intro e1
  rcases h.2 with ⟨rfl, _⟩ | ⟨g, cap, cur, rfl, _, hg, _⟩
  · cases e1
  · injection e1 with e1
    subst e1
    rw [ho] at hg
    injection hg with hg
    subst hg
    cases hc
theorem opIn_app_int {F : Fence} {nF : Nat} {w : World} {o : Oper} {a : Act} {K : Act → World → Prop} {Q : Exit → Act → World → Prop} (s x : Operand)
    (ho : o.op = .call { callee := .builtin .append, args := #[s, x], argTypes := #[26, 26] })
    (base : Nat) (v : Value) (n : Nat) (l : List Int) (hs : a.eval s = v) (hown : OwnI w base v n l)
    (B : Nat) (A : Option Addr) (c : Nat) (u : Int) (hx : a.eval x = .slice A 1 c) (hr : Ints w B A 1 [u]) (hn : n ≤ 1000000) (hbase : base ≤ w.heap.size)
    (h : ∀ v' w', OwnI w' base v' (n + 1) (l ++ [u]) → w.grownBy w' v.ownBlock → K (a.put o.dst v') w') : Oper.wpIn F nF Try.prog o a w K Q := by
  obtain ⟨i0, hi0, hz0, hz1, hz2⟩ := info_parts int_info
  obtain ⟨v', w', hrun, r1, r2, -⟩ := run_append_any (P := Try.prog) w base 26 o.type 3 i0 _ 1 8 Try.underlying26 hi0 hz0 hz1 hz2 rfl (by omega) v n (i64s l) hown B A 1 c (i64s [u]) hr (i64s_one _) (by simp only [maxLen]; omega) (by omega) hbase
  unfold Oper.wpIn
  refine ⟨?_, ?_⟩
  · simp [Oper.about, ho, resolve, Target.leads, Sem.run_pure]
  · rw [Oper.semAt_plain F _ _ (by rw [ho]; intro c hc'; cases hc')]
    simp [execOp, ho, resolve, invoke, builtin, hs, hx, hrun, Result.andThen]
    exact h v' w' (by unfold OwnI; rw [i64s_app]; exact r1) r2
theorem wpListIn_app_int {F : Fence} {nF : Nat} {w : World} {ops : Array Oper} {rest : List Oper} {o : Oper} {a : Act} {Q : Exit → Act → World → Prop} (hgd : o.guard = none) (s x : Operand)
    (ho : o.op = .call { callee := .builtin .append, args := #[s, x], argTypes := #[26, 26] })
    (base : Nat) (v : Value) (n : Nat) (l : List Int) (hs : a.eval s = v) (hown : OwnI w base v n l)
    (B : Nat) (A : Option Addr) (c : Nat) (u : Int) (hx : a.eval x = .slice A 1 c) (hr : Ints w B A 1 [u]) (hn : n ≤ 1000000) (hbase : base ≤ w.heap.size)
    (h : ∀ v' w', OwnI w' base v' (n + 1) (l ++ [u]) → w.grownBy w' v.ownBlock → wpListIn F nF Try.prog ops Q rest (a.put o.dst v') w') : wpListIn F nF Try.prog ops Q (o :: rest) a w :=
  wpListIn_plain hgd fun K' hK' => opIn_app_int s x ho base v n l hs hown B A c u hx hr hn hbase fun v' w' h1 h2 => hK' _ _ (h v' w' h1 h2)
def newer (q : Int) (pre : List (Nat × Int)) : List Int := (pre.map (·.2)).filter fun s => decide (q < s)
structure SeeAt (W w : World) (g : Nat) (sq : Int) (cc : Array Value) (v : Value) (L : List Int) : Prop where
  b0 : Blk W w.heap.size 104 #[.pointer (some ⟨g, 0, none⟩)]
  b1 : Blk W (w.heap.size + 1) 28 cc
  b2 : Blk W (w.heap.size + 1 + 1) 26 #[v]
  own : OwnI W (w.heap.size + 4) v L.length L
  bel : Below w.heap.size w W
theorem SeeAt.grown {W W' w : World} {g : Nat} {sq : Int} {cc : Array Value} {v : Value} {L : List Int} {row : Option Nat} (h : SeeAt W w g sq cc v L) (hg : W.grownBy W' row) (hr : ∀ r, row = some r → w.heap.size + 4 ≤ r ∧ ∃ o : Obj, W.heap[r]? = some o ∧ o.isCells = false) : SeeAt W' w g sq cc v L := by
  have hne : ∀ k, k < w.heap.size + 4 → some k ≠ row := fun k hk e => by have := (hr _ e.symm).1; omega
  refine ⟨h.b0.grown hg (hne _ (by omega)), h.b1.grown hg (hne _ (by omega)), h.b2.grown hg (hne _ (by omega)), World.ownsRow.kept h.own hg ?_, h.bel.grown hg h.bel.size (fun k e => by have := (hr _ e).1; omega)⟩
  rcases hv : v.ownBlock with _ | b
  · exact .inl rfl
  · right
    intro e1
    obtain ⟨-, o, ho, hc⟩ := hr b e1.symm
    exact row_noI h.own ho hc hv
theorem SeeAt.step {W W3 w : World} {g n0 : Nat} {sq x : Int} {cc : Array Value} {v v3 : Value} {L : List Int} (h : SeeAt W w g sq cc v L) (h3 : OwnI W3 (w.heap.size + 4) v3 (L.length + 1) (L ++ [x])) (hg : (W.alloc (.cells (i64s [x]).toArray 3)).grownBy W3 v.ownBlock) (hn0 : n0 = w.heap.size + 4) (hs : n0 ≤ W.heap.size) :
    KeepsFrom n0 W (W3.setCell ⟨w.heap.size + 1 + 1, 0, none⟩ v3) ∧ KeepsBut n0 (w.heap.size + 1 + 1) W (W3.setCell ⟨w.heap.size + 1 + 1, 0, none⟩ v3) ∧ SeeAt (W3.setCell ⟨w.heap.size + 1 + 1, 0, none⟩ v3) w g sq cc v3 (L ++ [x]) := by
  subst hn0
  have ho1 : OwnI (W.alloc (.cells (i64s [x]).toArray 3)) (w.heap.size + 4) v L.length L := World.ownsRow.alloc h.own _
  have hlo : ∀ k, v.ownBlock = some k → w.heap.size + 4 ≤ k := fun k hk => (World.ownsRow.lt ho1 k hk).1
  have hsz := h.bel.size
  have hne : ∀ k, k < w.heap.size + 4 → some k ≠ v.ownBlock := fun k hk e => by have := hlo _ e.symm; omega
  have hkeep : ∀ k, k < w.heap.size + 4 → W3.heap[k]? = W.heap[k]? := fun k hk => (hg.block k (by rw [World.size_alloc]; omega) (hne k hk)).trans (Below.heap_alloc W _ k (by omega))
  refine ⟨?_, fun k hk hn => (Below.heap_setCell _ _ _ _ hn).trans (hkeep k hk), ?_⟩
  · refine KeepsFrom.trans (KeepsFrom.trans ((KeepsOthers.alloc _ _).from _) ((KeepsOthers.of_grownBy hg (fun j o e ho => ?_)).from _)) ((KeepsOthers.setCell _ _ _).from _)
    cases hc : o.isCells with
    | true => rfl
    | false => exact absurd e (row_noI ho1 ho hc)
  · have b2 := h.b2.of (hkeep _ (by omega))
    refine ⟨(h.b0.of (hkeep _ (by omega))).far (by show w.heap.size ≠ w.heap.size + 1 + 1; omega) _, (h.b1.of (hkeep _ (by omega))).far (by show w.heap.size + 1 ≠ w.heap.size + 1 + 1; omega) _, by simpa using b2.set_ 0 v3, ?_, ((h.bel.alloc h.bel.size _).grown hg (by rw [World.size_alloc]; omega) (fun k e => by have := hlo _ e; omega)).setCell (p := ⟨w.heap.size + 1 + 1, 0, none⟩) (by show _ ≤ w.heap.size + 1 + 1; omega) _⟩
    rw [List.length_append, List.length_singleton]
    exact row_of h3 fun k hk => Below.heap_setCell _ _ _ _ (fun e => by
      have := row_over h3 k hk
      have e' : k = w.heap.size + 1 + 1 := e
      omega)
def SeeTo (w : World) (g base : Nat) (q : OA) (c : CxV) (e : Ending) (w' : World) : Prop := e = .returned (.tuple #[]) ∧ ∃ q' : OA, q'.v = seeO q.v c ∧ Blk w' g 36 q'.cs ∧ q'.N w' base ∧ Only (g :: rowOf (.slice q.C 0 0)) w w'
theorem see_end {w W : World} {g base D : Nat} {q q2 : OA} {c : CxV} {cq : Int} (K : Blk W g 36 q2.cs) (hN : q2.N W base) (hO : Only (g :: rowOf (.slice q.C 0 0)) w W) (hD : W.heap[D]? = some (.deferred (some []))) (hDw : w.heap.size ≤ D) (hgl : g < w.heap.size) (i1 : -9223372036854775808 ≤ cq) (i2 : cq ≤ 9223372036854775807) (hv : (OA.v {q2 with sq := cq}) = seeO q.v c) :
    SeeTo w g base q c (.returned (.tuple #[])) ((W.setCell ⟨g, 2, none⟩ (.int .i64 cq)).putObj D (.deferred none)) := by
  have hkp := grownBy_putObj' (W.setCell ⟨g, 2, none⟩ (.int .i64 cq)) D (.deferred none)
  have hDg : g ≠ D := by omega
  refine ⟨rfl, {q2 with sq := cq}, hv, ?_, ?_, ?_⟩
  · have := (K.set_ 2 (.int .i64 cq)).grown hkp (fun e => by injection e with e; exact hDg e)
    simpa [OA.cs] using this
  · have h1 : q2.N ((W.setCell ⟨g, 2, none⟩ (.int .i64 cq)).putObj D (.deferred none)) base := hN.typed fun k t cs hb ht => by
      have hkg : k ≠ g := fun e => by
        subst e
        refine hb.ne_ K ?_ rfl
        rcases ht with rfl | rfl | rfl <;> decide
      have hkD : k ≠ D := fun e => by
        subst e
        unfold Blk at hb
        rw [hD] at hb
        cases hb
      exact (hkp.block k (by simpa using hb.lt) (fun e => by injection e with e; exact hkD e)).trans (Below.heap_setCell _ _ _ _ hkg)
    exact ⟨h1.dt, h1.ok, h1.row, h1.cl, i1, i2, h1.dD, h1.dS⟩
  · exact (hO.setCell (.inl (by simp)) _).grown hkp (fun k e => by injection e with e; exact .inr (by omega))
theorem see_step {w W w1 w3 w4 : World} {g base : Nat} {q : OA} {fr : List Int} {A1 D2 A4 : Option Addr} {c1 c2 c4 : Nat} {cg : Array Value} (hQ : q.N w base) (hbase : base ≤ w.heap.size) (hbel : Below w.heap.size w W)
    (hfr : OwnI W (w.heap.size + 4) (.slice A1 fr.length c1) fr.length fr) (hfi : ∀ s ∈ fr, -9223372036854775808 ≤ s ∧ s ≤ 9223372036854775807) (hb1 : Below W.heap.size W w1) (hD : Own w1 W.heap.size (.slice D2 q.dt.length c2) q.dt.length q.dt)
    (h3 : OwnC 79 w3 base (.slice A4 (q.cl ++ [(CA.mk fr q.dt A1 c1 D2 c2)]).length c4) (q.cl ++ [(CA.mk fr q.dt A1 c1 D2 c2)])) (g3 : (w1.alloc (.cells (CA.cells (CA.mk fr q.dt A1 c1 D2 c2)).toArray 79)).grownBy w3 (Value.slice q.C q.cl.length q.cc).ownBlock)
    (K : Blk w g 36 cg) (h4 : Only [g] w3 w4) :
    OA.N ⟨q.th, q.dt, q.D, q.cd, q.sq, A4, c4, q.cl ++ [(CA.mk fr q.dt A1 c1 D2 c2)]⟩ w4 base ∧ Only (g :: rowOf (.slice q.C 0 0)) w w4 := by
  have hNW := hQ.below hbel
  have hz := hbel.size
  have hz1 := hb1.size
  have hz3 := g3.size
  rw [World.size_alloc] at hz3
  have hgl := K.lt
  have K1 : Blk w1 g 36 cg := (K.of (hbel.block g hgl)).of (hb1.block g (by omega))
  have hrowC : (Value.slice q.C q.cl.length q.cc).ownBlock = (Value.slice q.C 0 0).ownBlock := by cases q.C <;> rfl
  rw [hrowC] at g3
  have hcl : ∀ k, (Value.slice q.C 0 0).ownBlock = some k → base ≤ k ∧ k < w.heap.size ∧ ∃ cs, Blk w1 k 79 cs := fun k hk => by
    obtain ⟨x1, x2, cs, x3⟩ := OA.P.cU hQ k (mem_rowOf.2 hk)
    exact ⟨x1, x2, cs, (x3.of (hbel.block k x2)).of (hb1.block k (by omega))⟩
  have hkeep1 : ∀ k t cs, Blk w1 k t cs → t = 5 ∨ t = 3 → w4.heap[k]? = w1.heap[k]? := fun k t cs hk ht => by
    have hkl := hk.lt
    have e1 : w3.heap[k]? = w1.heap[k]? := (g3.block k (by rw [World.size_alloc]; omega) (fun e => by
      obtain ⟨-, -, cs', hb⟩ := hcl k e.symm
      refine hk.ne_ hb ?_ rfl
      rcases ht with rfl | rfl <;> decide)).trans (Below.heap_alloc w1 _ k hkl)
    refine (h4.block k (by omega) (fun hm => ?_)).trans e1
    simp at hm
    subst hm
    refine hk.ne_ K1 ?_ rfl
    rcases ht with rfl | rfl <;> decide
  have hkeepW : ∀ k t cs, Blk W k t cs → t = 5 ∨ t = 3 → w4.heap[k]? = W.heap[k]? := fun k t cs hk ht => by
    have e := hb1.block k hk.lt
    exact (hkeep1 k t cs (hk.of e) ht).trans e
  have hCN : ∀ {c' : CA} {b : Nat}, c'.N W b → c'.N w4 b := fun hc' => hc'.of (fun k hm => by obtain ⟨_, _, cs, hb⟩ := hc'.sU k hm; exact hkeepW k _ cs hb (.inr rfl)) (fun k hm => by obtain ⟨_, _, cs, hb⟩ := hc'.dU k hm; exact hkeepW k _ cs hb (.inl rfl))
  have hnew : CA.N (CA.mk fr q.dt A1 c1 D2 c2) w4 base :=
    ⟨OwnI.weaken (row_of hfr fun k hk => by obtain ⟨cs, hb⟩ := own_ty hfr hk; exact hkeepW k _ cs hb (.inr rfl)) (by omega), Own.weaken (row_of hD fun k hk => by obtain ⟨cs, hb⟩ := own_ty hD hk; exact hkeep1 k _ cs hb (.inl rfl)) (by omega), hQ.ok, hfi⟩
  refine ⟨⟨row_of hNW.dt fun k hk => by obtain ⟨cs, hb⟩ := own_ty hNW.dt hk; exact hkeepW k _ cs hb (.inl rfl), hQ.ok, ?_, fun c' hc' => ?_, hQ.q1, hQ.q2, ?_, ?_⟩, ?_⟩
  · rw [List.append_nil]
    exact row_of h3 fun k hk => h4.block k (row_under h3 k hk) (fun hm => by
      simp at hm
      subst hm
      obtain ⟨cs, hb⟩ := own_ty h3 hk
      refine hb.ne_ (K1.of ((g3.block _ (by rw [World.size_alloc]; omega) (fun e => ?_)).trans (Below.heap_alloc w1 _ _ (by omega)))) (by decide) rfl
      obtain ⟨-, -, cs', hb'⟩ := hcl _ e.symm
      exact hb'.ne_ K1 (by decide) rfl)
  · rcases List.mem_append.1 hc' with hm | hm
    · exact hCN (hNW.cl c' hm)
    · simp at hm
      subst hm
      exact hnew
  · have := hQ.dD.snoc (x := CA.dR (CA.mk fr q.dt A1 c1 D2 c2)) fun a ha k hk hx => by
      have h5 : W.heap.size ≤ k := by
        rw [CA.dR, row_slice _ 0 0 q.dt.length c2] at hx
        exact row_over hD k hx
      rcases List.mem_cons.1 ha with rfl | ha
      · have := (OA.P.dU hQ k hk).2.1; omega
      · obtain ⟨c', hc', rfl⟩ := List.mem_map.1 ha
        have := ((hQ.cl c' hc').dU k hk).2.1; omega
    simpa using this
  · have := hQ.dS.snoc (x := CA.sR (CA.mk fr q.dt A1 c1 D2 c2)) fun a ha k hk hx => by
      have h5 : w.heap.size + 4 ≤ k := by
        rw [CA.sR, row_slice _ 0 0 fr.length c1] at hx
        exact row_over hfr k hx
      obtain ⟨c', hc', rfl⟩ := List.mem_map.1 ha
      have := ((hQ.cl c' hc').sU k hk).2.1; omega
    simpa using this
  · have o1 : Only (g :: rowOf (.slice q.C 0 0)) w w1 := Only.of_below (hbel.trans (hb1.mono hz)) _
    have o2 := (o1.alloc (.cells (CA.cells (CA.mk fr q.dt A1 c1 D2 c2)).toArray 79)).grown g3 (fun k e => .inl (by simp [mem_rowOf.2 e]))
    refine o2.trans h4 (fun k hk => .inl (by simp at hk; subst hk; simp))
set_option maxHeartbeats 8000000 in
theorem see_in {w : World} {g base : Nat} (q : OA) (c : XA) (hg : Blk w g 36 q.cs) (hq : q.N w base) (hS : q.Sm) (hc : c.R w) (hb : base ≤ w.heap.size) (h16 : c.sn.length ≤ 1000) : CallsIn Fence.wide 5 Try.prog 95 #[.pointer (some ⟨g, 0, none⟩), .agg c.cells] w (SeeTo w g base q c.v) := by
  obtain ⟨cq, sn, S, cs⟩ := c
  have hro : Fence.wide.round = none := rfl
  have h1 : 1 ≤ 5 := by omega
  have HC := Lib.hid hc
  have HG := Lib.hid hg
  have HQ := Lib.hid hq
  have HSM := Lib.hid hS
  have hgl := hg.lt
  clear hc hg hq hS
  dsimp only at h16
  unfold XA.cells
  dsimp only
  refine callsIn_of_wp_marks Try.func95 rfl trivial ?_ hro
  simp only [Try.ntmps95, List.size_toArray, List.length_cons, List.length_nil, Nat.reduceAdd, Nat.reduceSub, Array.replicate_succ, Array.replicate_zero, List.push_toArray, List.append_toArray, List.nil_append, List.cons_append]
  gi_wp2_with (refine ⟨trivial, ?_⟩; gi_at_call 100; refine (callsIn_wide.2 (backwardI_any _ _ _ _)).mono ?_; rintro e w' ⟨rfl, rfl⟩)
  obtain ⟨W0, hW0⟩ : ∃ W0, W0 = ((((w.alloc (.cells #[.pointer (some ⟨g, 0, none⟩)] 104)).alloc (.cells #[.int .i64 cq, .slice S sn.length cs] 28)).alloc (.cells #[.slice none 0 0] 26)).alloc (.cells #[.slice S sn.length cs] 26)) := ⟨_, rfl⟩
  have hB0 : Below w.heap.size w W0 := by rw [hW0]; exact ((((Below.refl _ w).alloc (Nat.le_refl _) _).alloc (by simp) _).alloc (by simp; omega) _).alloc (by simp; omega) _
  have b0 : Blk W0 w.heap.size 104 #[.pointer (some ⟨g, 0, none⟩)] := by rw [hW0]; exact (((Blk.new w _ _).alloc _).alloc _).alloc _
  have b1 : Blk W0 (w.heap.size + 1) 28 #[.int .i64 cq, .slice S sn.length cs] := by
    have := ((Blk.new (w.alloc (.cells #[.pointer (some ⟨g, 0, none⟩)] 104)) 28 #[.int .i64 cq, .slice S sn.length cs]).alloc (.cells #[.slice none 0 0] 26)).alloc (.cells #[.slice S sn.length cs] 26)
    rw [hW0]
    simpa using this
  have b2 : Blk W0 (w.heap.size + 1 + 1) 26 #[.slice none 0 0] := by
    have := (Blk.new ((w.alloc (.cells #[.pointer (some ⟨g, 0, none⟩)] 104)).alloc (.cells #[.int .i64 cq, .slice S sn.length cs] 28)) 26 #[.slice none 0 0]).alloc (.cells #[.slice S sn.length cs] 26)
    rw [hW0]
    simpa using this
  have b3 : Blk W0 (w.heap.size + 1 + 1 + 1) 26 #[.slice S sn.length cs] := by
    have := Blk.new (((w.alloc (.cells #[.pointer (some ⟨g, 0, none⟩)] 104)).alloc (.cells #[.int .i64 cq, .slice S sn.length cs] 28)).alloc (.cells #[.slice none 0 0] 26)) 26 #[.slice S sn.length cs]
    rw [hW0]
    simpa using this
  have hsz : W0.heap.size = w.heap.size + 4 := by rw [hW0]; simp
  have hsn : Ints W0 w.heap.size S sn.length sn := Reads.below HC.out.sn hB0
  rw [← hW0]
  clear hW0
  have HSN := Lib.hid hsn
  have HS := Lib.hid hsz
  have hrev : (backI sn sn.length).map (·.2) = sn.reverse := by
    rw [backI_map sn sn.length (Nat.le_refl _), List.take_of_length_le (by simp)]
  have HREV := Lib.hid hrev
  clear hrev
  have hx3 : ∀ (W : World), Blk W (w.heap.size + 1 + 1 + 1) 26 #[.slice S sn.length cs] → W.cell? ⟨w.heap.size + 1 + 1 + 1, 0, none⟩ = some (.slice S sn.length cs) := fun W h => h.cell 0
  refine wpIn_rangeFunc_ownH hro h1 (gf := 101) (lb := #[.pointer (some ⟨w.heap.size + 1 + 1 + 1, 0, none⟩)]) rfl trivial (enters_of Try.func101 (by kernel_rfl) rfl)
    (backI_stops Fence.wide 4 (fun _ => trivial) hro (by omega) (w.heap.size + 1 + 1 + 1) W0.heap.size (w.heap.size + 1 + 1) S cs sn (by omega) W0 (by omega) (by omega) (by omega) (Nat.le_refl _) (hx3 _ b3) (Ints.more HSN.out (by omega))) (fun h h' => KeepsBut.trans h h') (keepsBut_b (Nat.le_refl _)) (Below.refl _ _) (fun _ => rfl)
    (fun pre W => ∃ v, SeeAt W w g q.sq #[.int .i64 cq, .slice S sn.length cs] v (newer q.sq pre))
    (fun c pre W => False)
    ?own1 ?own2 ⟨_, b0, b1, b2, OwnI.nil _ _, hB0⟩
    (fun x a' W => a' = { tmps := #[.pointer (some ⟨g, 0, none⟩), .agg #[.int .i64 cq, .slice S sn.length cs], .pointer (some ⟨w.heap.size, 0, none⟩), .pointer (some ⟨w.heap.size + 1, 0, none⟩), .pointer (some ⟨w.heap.size + 1 + 1, 0, none⟩), undef, .int .i64 x.2, .pointer (some ⟨w.heap.size + 1, 1, none⟩), .slice S sn.length cs, .func (.func 101) #[] #[.pointer (some ⟨w.heap.size + 1 + 1 + 1, 0, none⟩)], .int .i64 (x.1 : Int), .int .i64 x.2, undef, undef, undef, undef, undef, undef, undef, undef, undef, undef, undef, undef, undef, undef, undef, undef, undef, undef, undef, undef, undef, undef, undef, undef, undef, undef, undef, undef, undef, undef, undef, undef, undef, undef, undef, undef, undef, undef, undef, undef], defers := [] })
    (fun _ _ => ownFrom_pure _ _) ?assign ?body ?done ?stop
  case own1 =>
    rintro pre W W' row ⟨v, hv⟩ hg hr
    exact ⟨v, hv.grown hg fun r e => ⟨by have := (hr r e).1; have := HS.out; omega, (hr r e).2⟩⟩
  case own2 =>
    rintro c pre W W' row h hg hr
    exact h
  case assign =>
    rintro l pre x W K hI hK
    have HK := Lib.hid hK
    have HI := Lib.hid hI
    clear hK hI hsz
    unfold encI
    gi_wp2
    exact HK.out _ _ (KeepsFrom.refl _ _) (KeepsBut.refl _ _ _) HI.out rfl
  case body =>
    rintro l pre x a' W hl0 ⟨rl, hrl⟩ ⟨v, hv⟩ rfl hlt
    obtain ⟨xi, xv⟩ := x
    have hl : W0.heap.size ≤ W.heap.size := by have := (Array.getElem?_eq_some_iff.1 hrl).1; omega
    clear hrl hl0
    have c0 : W.cell? ⟨w.heap.size, 0, none⟩ = some (.pointer (some ⟨g, 0, none⟩)) := hv.b0.cell 0
    have cg : W.cell? ⟨g, 2, none⟩ = some (.int .i64 q.sq) := (HG.out.of (hv.bel.block _ hgl)).cell 2
    have c2 : W.cell? ⟨w.heap.size + 1 + 1, 0, none⟩ = some v := hv.b2.cell 0
    have HV := Lib.hid hv
    obtain ⟨A1, c1, rfl⟩ := hv.own.form2
    have hsn2 := HSN.out
    have hpl : (newer q.sq pre).length ≤ 1000 := by
      have h5 : (newer q.sq pre).length ≤ pre.length := by unfold newer; refine Nat.le_trans (List.length_filter_le _ _) (by simp)
      omega
    have HL := Lib.hid (And.intro hl hpl)
    clear hv hsn2 hlt hsz hl hpl
    by_cases m1 : q.sq < xv
    · have d1 : decide (q.sq < xv) = true := decide_eq_true m1
      have hnew : newer q.sq (pre ++ [(xi, xv)]) = newer q.sq pre ++ [xv] := by simp [newer, List.filter_append, m1]
      have HN := Lib.hid hnew
      clear hnew
      gi_wp2_with (refine wpListIn_app_int rfl (.tmp 18) (.tmp 20) rfl (w.heap.size + 4) (.slice A1 (newer q.sq pre).length c1) (newer q.sq pre).length (newer q.sq pre) rfl (World.ownsRow.alloc HV.out.own _) _ (some ⟨W.heap.size, 0, none⟩) 1 xv rfl (Reads.new W [Value.int .i64 xv] 3 (0, 0)) (by have := HL.out.2; omega) (by rw [World.size_alloc]; have := HV.out.bel.size; have := HL.out.1; have := HS.out; omega) ?_
                   intro v3 W3 h3 g3
                   obtain ⟨A3, c3', rfl⟩ := OwnI.form2 h3
                   have hst := HV.out.step (n0 := W0.heap.size) (g := g) h3 g3 HS.out HL.out.1
                   have c3 : W3.cell? ⟨w.heap.size + 1 + 1, 0, none⟩ = some (.slice A1 (newer q.sq pre).length c1) := by
                     have h6 := HV.out.b2.alloc (.cells (i64s [xv]).toArray 3)
                     exact (h6.grown g3 (fun e => by have := (World.ownsRow.lt HV.out.own _ e.symm).1; omega)).cell 0
                   have f3 : W3.frozen? ⟨w.heap.size + 1 + 1, 0, none⟩ = false := by
                     have h6 := HV.out.b2.alloc (.cells (i64s [xv]).toArray 3)
                     exact (h6.grown g3 (fun e => by have := (World.ownsRow.lt HV.out.own _ e.symm).1; omega)).frozen 0
                   have HST := Lib.hid hst
                   clear hst h3 g3)
      refine ⟨HST.out.1, HST.out.2.1, .slice A3 ((newer q.sq pre).length + 1) c3', ?_⟩
      rw [HN.out]
      exact HST.out.2.2
    · have d1 : decide (q.sq < xv) = false := decide_eq_false m1
      have hnew : newer q.sq (pre ++ [(xi, xv)]) = newer q.sq pre := by simp [newer, List.filter_append, m1]
      have HN := Lib.hid hnew
      clear hnew
      gi_wp2
      refine ⟨KeepsFrom.refl _ _, KeepsBut.refl _ _ _, .slice A1 (newer q.sq pre).length c1, ?_⟩
      rw [HN.out]
      exact HV.out
  case stop =>
    rintro D c pre W hD ⟨k, hk, rfl⟩ hf hK
    exact hf.elim
  case done =>
    rintro D ys W hD rfl ⟨v, hv⟩ hK
    obtain ⟨fr, hfr⟩ : ∃ fr, fr = newer q.sq (backI sn sn.length) := ⟨_, rfl⟩
    have hF : fr = freshI q.sq (XA.v ⟨cq, sn, S, cs⟩) := by rw [hfr]; unfold newer freshI; rw [HREV.out]; rfl
    rw [← hfr] at hv
    obtain ⟨A1, c1, rfl⟩ := hv.own.form2
    have hDw : w.heap.size + 4 ≤ D := by have := HS.out; omega
    have KG := HG.out.of (hv.bel.block _ hgl)
    have HN := Lib.hid (HQ.out.below hv.bel)
    have HF := Lib.hid hF
    have HFI : Hid (∀ s ∈ fr, -9223372036854775808 ≤ s ∧ s ≤ 9223372036854775807) := Lib.hid fun s hs => by
      rw [hF] at hs
      exact HC.out.i1 s (fresh_mem.1 hs).1
    have hfl : fr.length ≤ 1000 := by
      rw [hF]
      unfold freshI
      refine Nat.le_trans (List.length_filter_le _ _) ?_
      simpa [XA.v] using h16
    obtain ⟨nf, hnf⟩ : ∃ nf, nf = fr.length := ⟨_, rfl⟩
    have HNF := Lib.hid hnf
    have HV := Lib.hid hv
    have HDD := Lib.hid (And.intro hK hDw)
    have c0 : W.cell? ⟨w.heap.size, 0, none⟩ = some (.pointer (some ⟨g, 0, none⟩)) := hv.b0.cell 0
    have cc1 : W.cell? ⟨w.heap.size + 1, 0, none⟩ = some (.int .i64 cq) := hv.b1.cell 0
    have c2 : W.cell? ⟨w.heap.size + 1 + 1, 0, none⟩ = some (.slice A1 nf c1) := by rw [hnf]; exact hv.b2.cell 0
    have g0 : W.cell? ⟨g, 0, none⟩ = some (.bool q.th) := KG.cell 0
    have fg2 : W.frozen? ⟨g, 2, none⟩ = false := KG.frozen 2
    have cg2 : W.cell? ⟨g, 2, none⟩ = some (.int .i64 q.sq) := KG.cell 2
    have HK := Lib.hid KG
    have hq1 := HC.out.q1
    have hq2 := HC.out.q2
    have HI := Lib.hid (And.intro hq1 hq2)
    clear hfr hF hnf hv hK hDw hq1 hq2 b0 b1 b2 b3 hsn hsz hx3 KG
    by_cases hno : q.th = false ∨ nf = 0
    · have HFIN : Hid (SeeTo w g base q (XA.v ⟨cq, sn, S, cs⟩) (.returned (.tuple #[])) ((W.setCell ⟨g, 2, none⟩ (.int .i64 cq)).putObj D (.deferred none))) := Lib.hid (by
        refine see_end (q2 := q) HK.out HN.out (Only.of_below HV.out.bel _) HDD.out.1 (by have := HDD.out.2; omega) hgl HI.out.1 HI.out.2 ?_
        have : newCl q.v (XA.v ⟨cq, sn, S, cs⟩) = [] := by
          unfold newCl
          rw [if_neg]
          rintro ⟨h1, h2⟩
          rcases hno with h | h
          · have h3 : q.v.th = q.th := rfl
            rw [h3, h] at h1
            cases h1
          · apply h2
            have h3 : freshI q.v.sq (XA.v ⟨cq, sn, S, cs⟩) = fr := HF.out.symm
            rw [h3]
            exact List.eq_nil_of_length_eq_zero (by rw [← HNF.out, h])
        unfold seeO
        rw [this, List.append_nil]
        rfl)
      have hK5 : (W.setCell ⟨g, 2, none⟩ (.int .i64 cq)).heap[D]? = some (.deferred (some [])) := (Below.heap_setCell _ _ _ _ (by have := HDD.out.2; show D ≠ g; omega)).trans HDD.out.1
      have HK5 := Lib.hid hK5
      clear hK5
      rcases hno with hth | hz
      · rw [hth] at g0
        clear hth hD
        gi_wp2
        refine ⟨by simp, .inl ⟨_, _, rfl, run_takeDeferred HK5.out, ?_⟩⟩
        exact ⟨_, results_none rfl _ _ _, HFIN.out⟩
      · have d1 : decide ((0 : Int) < (nf : Int)) = false := decide_eq_false (by omega)
        have d1n : decide (0 < nf) = false := decide_eq_false (by omega)
        cases hth : q.th with
        | false =>
          rw [hth] at g0
          clear hth hD
          gi_wp2
          refine ⟨by simp, .inl ⟨_, _, rfl, run_takeDeferred HK5.out, ?_⟩⟩
          exact ⟨_, results_none rfl _ _ _, HFIN.out⟩
        | true =>
          rw [hth] at g0
          clear hth hD
          gi_wp2
          refine ⟨by simp, .inl ⟨_, _, rfl, run_takeDeferred HK5.out, ?_⟩⟩
          exact ⟨_, results_none rfl _ _ _, HFIN.out⟩
    have hth : q.th = true := by
      cases h : q.th with
      | true => rfl
      | false => exact absurd (.inl h) hno
    have hnz : 0 < nf := by
      rcases Nat.eq_zero_or_pos nf with h | h
      · exact absurd (.inr h) hno
      · exact h
    have d1 : decide ((0 : Int) < (nf : Int)) = true := decide_eq_true (by omega)
    have d1n : decide (0 < nf) = true := decide_eq_true (by omega)
    rw [hth] at g0
    have HTH := Lib.hid hth
    have HNZ := Lib.hid hnz
    clear hno hth hnz hD
    gi_wp2
    refine wpIn_wide.2 ?_
    have K7 : Blk W.drew g 36 #[.bool true, .slice q.D q.dt.length q.cd, .int .i64 q.sq, .slice q.C q.cl.length q.cc] := by have := HK.out.drew; unfold OA.cs at this; rw [HTH.out] at this; exact this
    have HCC : Hid (∀ w' : World, (Blk w' g 36 #[.bool true, .slice q.D q.dt.length q.cd, .int .i64 q.sq, .slice q.C q.cl.length q.cc] ∧ Blk w' w.heap.size 104 #[.pointer (some ⟨g, 0, none⟩)] ∧ Blk w' (w.heap.size + 1 + 1) 26 #[.slice A1 nf c1]) → w'.cell? ⟨w.heap.size, 0, none⟩ = some (.pointer (some ⟨g, 0, none⟩)) ∧ w'.cell? ⟨w.heap.size + 1 + 1, 0, none⟩ = some (.slice A1 nf c1) ∧ w'.cell? ⟨g, 3, none⟩ = some (.slice q.C q.cl.length q.cc) ∧ w'.cell? ⟨g, 1, none⟩ = some (.slice q.D q.dt.length q.cd)) := Lib.hid fun w' h => ⟨h.2.1.cell 0, h.2.2.cell 0, h.1.cell 3, h.1.cell 1⟩
    have hS7 : Blk W.drew g 36 #[.bool true, .slice q.D q.dt.length q.cd, .int .i64 q.sq, .slice q.C q.cl.length q.cc] ∧ Blk W.drew w.heap.size 104 #[.pointer (some ⟨g, 0, none⟩)] ∧ Blk W.drew (w.heap.size + 1 + 1) 26 #[.slice A1 nf c1] := ⟨K7, HV.out.b0.drew, by rw [HNF.out]; exact HV.out.b2.drew⟩
    clear c0 cc1 c2 g0 fg2 cg2 d1
    refine any_beginL (fun w' => Blk w' g 36 #[.bool true, .slice q.D q.dt.length q.cd, .int .i64 q.sq, .slice q.C q.cl.length q.cc] ∧ Blk w' w.heap.size 104 #[.pointer (some ⟨g, 0, none⟩)] ∧ Blk w' (w.heap.size + 1 + 1) 26 #[.slice A1 nf c1]) 16 (by kernel_rfl) ?_
    refine L_take (i := 0) (v := .pointer (some ⟨g, 0, none⟩)) rfl rfl (by kernel_rfl) (by kernel_rfl) (by kernel_rfl) (by kernel_rfl) (fun _ _ _ h => h) (Or.inl ⟨by rfl, fun w hw => by have q1 := (HCC.out w hw).1; go_simp⟩) hS7 ?_
    simp only [Act.put, List.getElem_toArray, List.getElem_cons_succ, List.getElem_cons_zero, List.setIfInBounds_toArray, List.set_cons_zero, List.set_cons_succ]
    refine L_take (i := 1) (v := .pointer (some ⟨g, 0, none⟩)) rfl rfl (by kernel_rfl) (by kernel_rfl) (by kernel_rfl) (by kernel_rfl) (fun _ _ _ h => h) (Or.inl ⟨by rfl, fun w hw => by have q1 := (HCC.out w hw).1; go_simp⟩) hS7 ?_
    simp only [Act.put, List.getElem_toArray, List.getElem_cons_succ, List.getElem_cons_zero, List.setIfInBounds_toArray, List.set_cons_zero, List.set_cons_succ]
    refine L_take (i := 2) (v := .pointer (some ⟨g, 0, none⟩)) rfl rfl (by kernel_rfl) (by kernel_rfl) (by kernel_rfl) (by kernel_rfl) (fun _ _ _ h => h) (Or.inl ⟨by rfl, fun w hw => by kernel_rfl⟩) hS7 ?_
    simp only [Act.put, List.getElem_toArray, List.getElem_cons_succ, List.getElem_cons_zero, List.setIfInBounds_toArray, List.set_cons_zero, List.set_cons_succ]
    refine L_take (i := 3) (v := .pointer (some ⟨g, 3, none⟩)) rfl rfl (by kernel_rfl) (by kernel_rfl) (by kernel_rfl) (by kernel_rfl) (fun _ _ _ h => h) (Or.inl ⟨by rfl, fun w hw => by go_simp⟩) hS7 ?_
    simp only [Act.put, List.getElem_toArray, List.getElem_cons_succ, List.getElem_cons_zero, List.setIfInBounds_toArray, List.set_cons_zero, List.set_cons_succ]
    refine L_take (i := 4) (v := .slice q.C q.cl.length q.cc) rfl rfl (by kernel_rfl) (by kernel_rfl) (by kernel_rfl) (by kernel_rfl) (fun _ _ _ h => h) (Or.inl ⟨by rfl, fun w hw => by have q1 := (HCC.out w hw).2.2.1; go_simp⟩) hS7 ?_
    simp only [Act.put, List.getElem_toArray, List.getElem_cons_succ, List.getElem_cons_zero, List.setIfInBounds_toArray, List.set_cons_zero, List.set_cons_succ]
    refine L_take (i := 5) (v := .slice A1 nf c1) rfl rfl (by kernel_rfl) (by kernel_rfl) (by kernel_rfl) (by kernel_rfl) (fun _ _ _ h => h) (Or.inl ⟨by rfl, fun w hw => by have q1 := (HCC.out w hw).2.1; go_simp⟩) hS7 ?_
    simp only [Act.put, List.getElem_toArray, List.getElem_cons_succ, List.getElem_cons_zero, List.setIfInBounds_toArray, List.set_cons_zero, List.set_cons_succ]
    refine L_take (i := 6) (v := .pointer (some ⟨g, 0, none⟩)) rfl rfl (by kernel_rfl) (by kernel_rfl) (by kernel_rfl) (by kernel_rfl) (fun _ _ _ h => h) (Or.inl ⟨by rfl, fun w hw => by have q1 := (HCC.out w hw).1; go_simp⟩) hS7 ?_
    simp only [Act.put, List.getElem_toArray, List.getElem_cons_succ, List.getElem_cons_zero, List.setIfInBounds_toArray, List.set_cons_zero, List.set_cons_succ]
    refine L_take (i := 7) (v := .pointer (some ⟨g, 0, none⟩)) rfl rfl (by kernel_rfl) (by kernel_rfl) (by kernel_rfl) (by kernel_rfl) (fun _ _ _ h => h) (Or.inl ⟨by rfl, fun w hw => by kernel_rfl⟩) hS7 ?_
    simp only [Act.put, List.getElem_toArray, List.getElem_cons_succ, List.getElem_cons_zero, List.setIfInBounds_toArray, List.set_cons_zero, List.set_cons_succ]
    refine L_take (i := 8) (v := .pointer (some ⟨g, 1, none⟩)) rfl rfl (by kernel_rfl) (by kernel_rfl) (by kernel_rfl) (by kernel_rfl) (fun _ _ _ h => h) (Or.inl ⟨by rfl, fun w hw => by go_simp⟩) hS7 ?_
    simp only [Act.put, List.getElem_toArray, List.getElem_cons_succ, List.getElem_cons_zero, List.setIfInBounds_toArray, List.set_cons_zero, List.set_cons_succ]
    refine L_take (i := 9) (v := .slice q.D q.dt.length q.cd) rfl rfl (by kernel_rfl) (by kernel_rfl) (by kernel_rfl) (by kernel_rfl) (fun _ _ _ h => h) (Or.inl ⟨by rfl, fun w hw => by have q1 := (HCC.out w hw).2.2.2; go_simp⟩) hS7 ?_
    simp only [Act.put, List.getElem_toArray, List.getElem_cons_succ, List.getElem_cons_zero, List.setIfInBounds_toArray, List.set_cons_zero, List.set_cons_succ]
    have hsd := HSM.out.dt
    have hNW := HN.out
    refine L_one (j := 10) (by kernel_rfl) rfl (by rfl) ?_
    simp only [Act.put, List.getElem_toArray, List.getElem_cons_succ, List.getElem_cons_zero, List.setIfInBounds_toArray, List.set_cons_zero, List.set_cons_succ]
    refine wp_called (by kernel_rfl) (clone_any q.D q.dt.length q.cd q.dt W.drew _ (by omega) (OA.N.R hNW).dt.drew) ?_
    rintro e w1 ⟨v1, rfl, hv1, hb1⟩
    obtain ⟨D2, c2, rfl, -⟩ := hv1.form
    have hb1' : Below W.heap.size W w1 := below_drew' hb1
    have S1 : Blk w1 g 36 #[.bool true, .slice q.D q.dt.length q.cd, .int .i64 q.sq, .slice q.C q.cl.length q.cc] ∧ Blk w1 w.heap.size 104 #[.pointer (some ⟨g, 0, none⟩)] ∧ Blk w1 (w.heap.size + 1 + 1) 26 #[.slice A1 nf c1] := ⟨hS7.1.of (hb1.block _ hS7.1.lt), hS7.2.1.of (hb1.block _ hS7.2.1.lt), hS7.2.2.of (hb1.block _ hS7.2.2.lt)⟩
    refine ⟨_, rfl, S1, ?_⟩
    simp only [Act.put, List.getElem_toArray, List.getElem_cons_succ, List.getElem_cons_zero, List.setIfInBounds_toArray, List.set_cons_zero, List.set_cons_succ]
    refine L_one (j := 11) (by kernel_rfl) rfl (by rfl) ?_
    simp only [Act.put, List.getElem_toArray, List.getElem_cons_succ, List.getElem_cons_zero, List.setIfInBounds_toArray, List.set_cons_zero, List.set_cons_succ]
    refine wp_ran (v := .agg #[.slice A1 nf c1, .slice D2 q.dt.length c2]) (w' := w1) (by kernel_rfl) ⟨S1, ?_⟩
    simp only [Act.put, List.getElem_toArray, List.getElem_cons_succ, List.getElem_cons_zero, List.setIfInBounds_toArray, List.set_cons_zero, List.set_cons_succ]
    have hbs := build_scl (CA.mk fr q.dt A1 c1 D2 c2) w1
    have hnf2 := HNF.out
    simp only at hbs
    rw [← hnf2] at hbs
    refine L_one (j := 12) (by kernel_rfl) rfl (by rfl) ?_
    simp only [Act.put, List.getElem_toArray, List.getElem_cons_succ, List.getElem_cons_zero, List.setIfInBounds_toArray, List.set_cons_zero, List.set_cons_succ]
    refine wp_ran (v := .slice (some ⟨w1.heap.size, 0, none⟩) 1 1) (w' := w1.alloc (.cells (CA.cells (CA.mk fr q.dt A1 c1 D2 c2)).toArray 79)) (by go_simp <;> rfl) ⟨⟨S1.1.alloc _, S1.2.1.alloc _, S1.2.2.alloc _⟩, ?_⟩
    simp only [Act.put, List.getElem_toArray, List.getElem_cons_succ, List.getElem_cons_zero, List.setIfInBounds_toArray, List.set_cons_zero, List.set_cons_succ]
    have hN1 := OA.N.below hNW hb1'
    have hrow1 := hN1.row
    rw [List.append_nil] at hrow1
    have hrow2 : OwnC 79 (w1.alloc (.cells (CA.cells (CA.mk fr q.dt A1 c1 D2 c2)).toArray 79)) base (.slice q.C q.cl.length q.cc) q.cl := World.ownsRow.alloc hrow1 _
    obtain ⟨i0, hi0, hz0, hz1, hz2⟩ := info_parts scl_info
    have hscn := HSM.out.cn
    have hsz9 := hb1'.size
    have hsz8 := HV.out.bel.size
    refine L_one (j := 13) (by kernel_rfl) rfl (by rfl) ?_
    simp only [Act.put, List.getElem_toArray, List.getElem_cons_succ, List.getElem_cons_zero, List.setIfInBounds_toArray, List.set_cons_zero, List.set_cons_succ]
    refine wp_append_any _ (.tmp 35) (.tmp 43) 34 rfl base 79 i0 _ 2 48 Try.underlying34 hi0 hz0 hz1 hz2 rfl (by omega) (.slice q.C q.cl.length q.cc) q.cl.length (q.cl.flatMap CA.cells) rfl hrow2 _ (some ⟨w1.heap.size, 0, none⟩) 1 1 ([(CA.mk fr q.dt A1 c1 D2 c2)].flatMap CA.cells) rfl (one_cl w1 79 (CA.mk fr q.dt A1 c1 D2 c2)) (cells_one _) (by simp only [maxLen]; omega) (by omega) (by rw [World.size_alloc]; omega) ?_
    intro v3 w3 h3 g3 a3
    have h3' : OwnC 79 w3 base v3 (q.cl ++ [(CA.mk fr q.dt A1 c1 D2 c2)]) := by unfold OwnC; rw [List.flatMap_append, List.length_append]; exact h3
    obtain ⟨A4, c4, rfl⟩ := h3'.form
    have hne3 : ∀ k t cs, Blk (w1.alloc (.cells (CA.cells (CA.mk fr q.dt A1 c1 D2 c2)).toArray 79)) k t cs → t ≠ 79 → Blk w3 k t cs := fun k t cs hk ht => hk.grown g3 (fun e => own_blk_ne hrow2 hk (fun e2 => ht e2.symm) e.symm)
    have S3 : Blk w3 g 36 #[.bool true, .slice q.D q.dt.length q.cd, .int .i64 q.sq, .slice q.C q.cl.length q.cc] ∧ Blk w3 w.heap.size 104 #[.pointer (some ⟨g, 0, none⟩)] ∧ Blk w3 (w.heap.size + 1 + 1) 26 #[.slice A1 nf c1] := ⟨hne3 _ _ _ (S1.1.alloc _) (by decide), hne3 _ _ _ (S1.2.1.alloc _) (by decide), hne3 _ _ _ (S1.2.2.alloc _) (by decide)⟩
    refine ⟨S3, ?_⟩
    simp only [Act.put, List.getElem_toArray, List.getElem_cons_succ, List.getElem_cons_zero, List.setIfInBounds_toArray, List.set_cons_zero, List.set_cons_succ]
    refine L_one (j := 14) (by kernel_rfl) rfl (by rfl) ?_
    simp only [Act.put, List.getElem_toArray, List.getElem_cons_succ, List.getElem_cons_zero, List.setIfInBounds_toArray, List.set_cons_zero, List.set_cons_succ]
    refine wp_ran (v := .pointer (some ⟨g, 0, none⟩)) (w' := w3) (by kernel_rfl) ⟨S3, ?_⟩
    simp only [Act.put, List.getElem_toArray, List.getElem_cons_succ, List.getElem_cons_zero, List.setIfInBounds_toArray, List.set_cons_zero, List.set_cons_succ]
    refine L_one (j := 15) (by kernel_rfl) rfl (by rfl) ?_
    simp only [Act.put, List.getElem_toArray, List.getElem_cons_succ, List.getElem_cons_zero, List.setIfInBounds_toArray, List.set_cons_zero, List.set_cons_succ]
    refine wp_ran (v := .pointer (some ⟨g, 3, none⟩)) (w' := w3) (by go_simp) ⟨S3, ?_⟩
    simp only [Act.put, List.getElem_toArray, List.getElem_cons_succ, List.getElem_cons_zero, List.setIfInBounds_toArray, List.set_cons_zero, List.set_cons_succ]
    have hlen4 : (q.cl ++ [(CA.mk fr q.dt A1 c1 D2 c2)]).length = q.cl.length + 1 := by simp
    have hown := HV.out.own
    rw [← hnf2] at hown
    have HST : Hid (∀ w4, Only [g] w3 w4 → OA.N ⟨q.th, q.dt, q.D, q.cd, q.sq, A4, c4, q.cl ++ [(CA.mk fr q.dt A1 c1 D2 c2)]⟩ w4 base ∧ Only (g :: rowOf (.slice q.C 0 0)) w w4) := Lib.hid fun w4 ho =>
      see_step HQ.out hb HV.out.bel (by rw [hnf2] at hown; exact hown) HFI.out hb1' (Own.weaken hv1 (Nat.le_refl _)) h3' g3 HG.out ho
    have hD3 : w3.heap[D]? = some (.deferred (some [])) := by
      have hDl := (Array.getElem?_eq_some_iff.1 HDD.out.1).1
      refine (g3.block D (by rw [World.size_alloc]; omega) (fun e => ?_)).trans ((Below.heap_alloc w1 _ D (by omega)).trans ((hb1'.block D hDl).trans HDD.out.1))
      obtain ⟨cs, hcb⟩ := own_ty hrow1 (mem_rowOf.2 e.symm)
      unfold Blk at hcb
      rw [(hb1'.block D hDl).trans HDD.out.1] at hcb
      cases hcb
    have c03 := S3.2.1.cell 0
    have cc3 : w3.cell? ⟨w.heap.size + 1, 0, none⟩ = some (.int .i64 cq) := ((hne3 _ _ _ ((HV.out.b1.of (hb1'.block _ HV.out.b1.lt)).alloc _) (by decide))).cell 0
    have b13 := (hne3 _ _ _ ((HV.out.b1.of (hb1'.block _ HV.out.b1.lt)).alloc (.cells (CA.cells (CA.mk fr q.dt A1 c1 D2 c2)).toArray 79)) (by decide))
    have H3 := Lib.hid (And.intro S3 (And.intro hD3 b13))
    have HH3 := Lib.hid hlen4
    clear hbs hnf2 hNW hN1 hrow1 hrow2 hi0 hz0 hz1 hz2 hne3 S1 h3 h3' g3 a3 hv1 hb1 hb1' hS7 K7 HCC hD3 hown hlen4 c03 cc3 b13 hsz9 hsz8
    refine L_last (by kernel_rfl) rfl (by rfl) (by kernel_rfl) ?_
    simp only [Act.put, List.getElem_toArray, List.getElem_cons_succ, List.getElem_cons_zero, List.setIfInBounds_toArray, List.set_cons_zero, List.set_cons_succ]
    refine wp_setq 34 (.tmp 46) (.tmp 44) rfl g 3 36 _ (.slice A4 (q.cl ++ [(CA.mk fr q.dt A1 c1 D2 c2)]).length c4) rfl rfl S3.1 (by simp) (by kernel_rfl) rfl ?_
    intro w4 K4 ho4 hs4
    refine NoPanic.normal ?_
    simp only [Act.put, List.getElem_toArray, List.getElem_cons_succ, List.getElem_cons_zero, List.setIfInBounds_toArray, List.set_cons_zero, List.set_cons_succ]
    have hne4 : ∀ k t cs, Blk w3 k t cs → t ≠ 36 → Blk w4 k t cs := fun k t cs hk ht => hk.only ho4 (fun hm => by simp at hm; subst hm; exact hk.ne_ H3.out.1.1 ht rfl)
    have c04 : w4.cell? ⟨w.heap.size, 0, none⟩ = some (.pointer (some ⟨g, 0, none⟩)) := (hne4 _ _ _ H3.out.1.2.1 (by decide)).cell 0
    have cc4 : w4.cell? ⟨w.heap.size + 1, 0, none⟩ = some (.int .i64 cq) := (hne4 _ _ _ H3.out.2.2 (by decide)).cell 0
    have K4' : Blk w4 g 36 (OA.cs ⟨q.th, q.dt, q.D, q.cd, q.sq, A4, c4, q.cl ++ [(CA.mk fr q.dt A1 c1 D2 c2)]⟩) := by
      unfold OA.cs
      rw [HTH.out]
      simpa using K4
    have cg4 : w4.cell? ⟨g, 2, none⟩ = some (.int .i64 q.sq) := K4'.cell 2
    have fg4 : w4.frozen? ⟨g, 2, none⟩ = false := K4'.frozen 2
    have hD4 : w4.heap[D]? = some (.deferred (some [])) := (ho4.block D ((Array.getElem?_eq_some_iff.1 H3.out.2.1).1) (fun hm => by simp at hm; have := HDD.out.2; omega)).trans H3.out.2.1
    have hst4 := HST.out w4 ho4
    have HFIN : Hid (SeeTo w g base q (XA.v ⟨cq, sn, S, cs⟩) (.returned (.tuple #[])) ((w4.setCell ⟨g, 2, none⟩ (.int .i64 cq)).putObj D (.deferred none))) := Lib.hid (by
      refine see_end K4' hst4.1 hst4.2 hD4 (by have := HDD.out.2; omega) hgl HI.out.1 HI.out.2 ?_
      have : newCl q.v (XA.v ⟨cq, sn, S, cs⟩) = [⟨fr, q.dt⟩] := by
        unfold newCl
        have h3 : freshI q.v.sq (XA.v ⟨cq, sn, S, cs⟩) = fr := HF.out.symm
        rw [h3, if_pos]
        · rfl
        · exact ⟨HTH.out, fun e => by have := HNZ.out; have h4 := HNF.out; rw [e] at h4; simp at h4; omega⟩
      unfold seeO
      rw [this]
      show OV.mk _ _ _ _ = OV.mk _ _ _ _
      simp only [OA.v, OA.vs, CA.v, XA.v, List.map_append, List.map_cons, List.map_nil])
    have hK5 : (w4.setCell ⟨g, 2, none⟩ (.int .i64 cq)).heap[D]? = some (.deferred (some [])) := (Below.heap_setCell _ _ _ _ (by have := HDD.out.2; show D ≠ g; omega)).trans hD4
    have HK5 := Lib.hid hK5
    clear hK5 hst4 hD4 K4' hne4 HST K4 ho4 hs4 S3 H3
    gi_wp2
    refine ⟨by simp, .inl ⟨_, _, rfl, run_takeDeferred HK5.out, ?_⟩⟩
    exact ⟨_, results_none rfl _ _ _, HFIN.out⟩
end Go.Proofs.Yteghbfkkpnlilaa

/-
  A change of an object in a context, whatever is done. Conditions: the object and the context read as they are said to; what may be done, and what is done, keep their contracts.
-/
namespace Go.Proofs.Yteghbfkkpnlilaa
open Go.RowKit
set_option linter.unusedSimpArgs false
set_option linter.unusedVariables false
set_option maxRecDepth 100000
inductive ChR (o : OV) (c : CxV) (km : Nat) (hd : Option (List Nat)) : OV → Nat → Prop
  | bad : ¬ Good o → ChR o c km hd OV.zero 2
  | ctx : Good o → ¬ (CxG c ∧ o.sq ≤ c.sq) → ChR o c km hd OV.zero 1
  | may : Good o → CxG c → o.sq ≤ c.sq → km ≠ 0 → ChR o c km hd OV.zero km
  | many : Good o → CxG c → o.sq ≤ c.sq → km = 0 → 16 < (seeO o c).cl.length → ChR o c km hd OV.zero 1
  | ok : Good o → CxG c → o.sq ≤ c.sq → km = 0 → (seeO o c).cl.length ≤ 16 → ChR o c km hd (withHead (seeO o c) hd) 0
theorem ChR.one {o : OV} {c : CxV} {km : Nat} {hd : Option (List Nat)} {x y : OV} {k j : Nat} (h : ChR o c km hd x k) (h' : ChR o c km hd y j) : x = y ∧ k = j := by
  cases h <;> cases h' <;> first
    | exact ⟨rfl, rfl⟩
    | (exfalso; simp_all; done)
    | (exfalso; rename_i a1 a2 _ _ a3 b1 b2 b3 _ b4; omega)
    | (exfalso; first | contradiction | omega)
theorem OA.zero_N (w : World) (base : Nat) : OA.zero.N w base := ⟨Own.nil _ _, fun b hb => (by cases hb), OwnC.nil _ _ _, fun c hc => (by cases hc), by decide, by decide, List.pairwise_singleton _ _, List.Pairwise.nil⟩
def ChTo (w : World) (R : OV → Nat → Prop) (e : Ending) (w' : World) : Prop := ∃ (q : OA) (k : Nat), e = .returned (.tuple #[.agg q.cs, errV k]) ∧ R q.v k ∧ q.N w' w.heap.size ∧ q.Sm ∧ Below w.heap.size w w'
def MayC (w : World) (fm : FuncId) (capm : Array Value) (km : Nat) : Prop := ∀ w1, Below w.heap.size w w1 → Calls Try.prog fm capm w1 fun e w' => e = .returned (errV km) ∧ Below w1.heap.size w1 w'
def DoesTo (w1 : World) (g base : Nat) (q : OA) (hd : Option (List Nat)) (e : Ending) (w' : World) : Prop := e = .returned (.tuple #[]) ∧ ∃ q' : OA, q'.v = withHead q.v hd ∧ Blk w' g 36 q'.cs ∧ q'.N w' base ∧ q'.Sm ∧ Only (g :: rowOf (.slice q.D 0 0)) w1 w'
def DoesC (w : World) (fd : FuncId) (capd : Array Value) (q0 : OV) (hd : Option (List Nat)) : Prop := ∀ (w1 : World) (g : Nat) (q : OA), Below w.heap.size w w1 → w.heap.size ≤ g → Blk w1 g 36 q.cs → q.N w1 w.heap.size → q.Sm → q.v = q0 → Calls Try.prog fd (#[.pointer (some ⟨g, 0, none⟩)] ++ capd) w1 (DoesTo w1 g w.heap.size q hd)
theorem res_cell_tmp {fn : Func} {p u : Tmp} {ty : TypeId} (h : fn.results = #[.cell p ty, .tmp u]) (tmps : Array Value) (w : World) (g : Nat) (cs : List Value) (v : Value) (d : TypeDesc)
    (hp : tmps.getD p undef = .pointer (some ⟨g, 0, none⟩)) (hv : tmps.getD u undef = v) (hB : Blk w g ty cs.toArray)
    (hu : Try.prog.underlying ty = some d) (hd : d.isRow = true) (hi : (Try.prog.info? ty).map (·.size) = some cs.length) :
    (results fn tmps).run Try.prog w = .ok (.tuple #[.agg cs.toArray, v]) w := by
  have hp' : tmps[p]?.getD undef = .pointer (some ⟨g, 0, none⟩) := by simpa using hp
  have hv' : tmps[u]?.getD undef = v := by simpa using hv
  simp [results, h, hp', hv', asAddr, run_loadVar_mid w g 0 ty cs d hB.range hu hd hi]
theorem see_Sm {o q : OA} {c : XA} (hS : o.Sm) (hc : c.sn.length ≤ 16) (ho : o.cl.length ≤ 16) (hv : q.v = seeO o.v c.v) : q.Sm := by
  have e1 : q.dt = o.dt := congrArg OV.dt hv
  have e2 : q.vs = o.vs ++ newCl o.v c.v := congrArg OV.cl hv
  have hl : (newCl o.v c.v).length ≤ 1 := by unfold newCl; split <;> simp
  refine ⟨by rw [e1]; exact hS.dt, ?_, fun x hx => ?_⟩
  · rw [← OA.vs_len, e2, List.length_append, OA.vs_len]
    omega
  · have hm : x.v ∈ q.vs := List.mem_map.2 ⟨x, hx, rfl⟩
    rw [e2] at hm
    rcases List.mem_append.1 hm with h | h
    · obtain ⟨x', hx', e3⟩ := List.mem_map.1 h
      have h1 := hS.cl x' hx'
      have e4 : x'.sn = x.sn := congrArg ClV.sn e3
      have e5 : x'.dt = x.dt := congrArg ClV.dt e3
      rw [← e4, ← e5]
      exact h1
    · unfold newCl at h
      split at h
      · simp at h
        have e4 : x.sn = freshI o.v.sq c.v := congrArg ClV.sn h
        have e5 : x.dt = o.v.dt := congrArg ClV.dt h
        rw [e4, e5]
        refine ⟨?_, hS.dt⟩
        unfold freshI
        refine Nat.le_trans (List.length_filter_le _ _) ?_
        simp only [XA.v, List.length_reverse]
        omega
      · cases h
theorem zero4_one : ∀ v ∈ [Value.bool false, .slice none 0 0, .int .i64 0, .slice none 0 0], v.oneCell' = true := by
  intro v hv
  simp at hv
  rcases hv with rfl | rfl | rfl | rfl <;> rfl
structure ChAt (w : World) (o : OA) (c : XA) (W : World) : Prop where
  bel : Below w.heap.size w W
  b0 : Blk W w.heap.size 36 #[.bool o.th, .slice o.D o.dt.length o.cd, .int .i64 o.sq, .slice o.C o.cl.length o.cc]
  b1 : Blk W (w.heap.size + 1) 28 #[.int .i64 c.sq, .slice c.S c.sn.length c.cs]
  b2 : Blk W (w.heap.size + 1 + 1) 36 #[.bool false, .slice none 0 0, .int .i64 0, .slice none 0 0]
theorem ChAt.next {w W W' : World} {o : OA} {c : XA} (h : ChAt w o c W) (hb : Below W.heap.size W W') : ChAt w o c W' :=
  ⟨h.bel.trans (hb.mono h.bel.size), h.b0.of (hb.block _ h.b0.lt), h.b1.of (hb.block _ h.b1.lt), h.b2.of (hb.block _ h.b2.lt)⟩
theorem ChAt.only {w W W' : World} {o : OA} {c : XA} {F : List Nat} (h : ChAt w o c W) (ho : Only F W W') (hF : ∀ k ∈ F, w.heap.size + 3 ≤ k) : ChAt w o c W' :=
  ⟨h.bel.trans (ho.below (B := w.heap.size) (fun k hk => by have := hF k hk; omega) h.bel.size), h.b0.only ho (fun hm => by have := hF _ hm; omega), h.b1.only ho (fun hm => by have := hF _ hm; omega), h.b2.only ho (fun hm => by have := hF _ hm; omega)⟩
theorem errV_some {k : Nat} (h : k ≠ 0) : errV k = .iface 58 (.int .i64 k) := by
  cases k with
  | zero => exact absurd rfl h
  | succ k => rfl
set_option maxHeartbeats 8000000 in
theorem change_any {w : World} (o : OA) (c : XA) (fm fd : FuncId) (capm capd : Array Value) (em : ∀ args w, (callFunc fm args).run Try.prog w = .ok (.enter fm args) w) (ed : ∀ args w, (callFunc fd args).run Try.prog w = .ok (.enter fd args) w) (km : Nat) (hd : Option (List Nat)) (ho : o.R w) (hoS : o.Sm) (hc : c.R w) (hM : Good o.v → MayC w fm capm km) (hD : Good o.v → CxG c.v → o.v.sq ≤ c.v.sq → km = 0 → (seeO o.v c.v).cl.length ≤ 16 → DoesC w fd capd (seeO o.v c.v) hd) :
    Calls Try.prog 64 #[.agg o.cs, .agg c.cells, .func (.func fm) #[] capm, .func (.func fd) #[] capd] w (ChTo w (ChR o.v c.v km hd)) := by
  have HO := Lib.hid (And.intro ho (And.intro hoS hc))
  have HM := Lib.hid hM
  have HD := Lib.hid hD
  obtain ⟨w0, hw0⟩ : ∃ w0, w0 = ((w.alloc (.cells o.cs 36)).alloc (.cells c.cells 28)).alloc (.cells #[.bool false, .slice none 0 0, .int .i64 0, .slice none 0 0] 36) := ⟨_, rfl⟩
  have hbel : Below w.heap.size w w0 := by rw [hw0]; exact (((Below.refl _ w).alloc (Nat.le_refl _) _).alloc (by simp) _).alloc (by simp; omega) _
  have b0 : Blk w0 w.heap.size 36 o.cs := by rw [hw0]; exact ((Blk.new w _ _).alloc _).alloc _
  have b1 : Blk w0 (w.heap.size + 1) 28 c.cells := by
    have := (Blk.new (w.alloc (.cells o.cs 36)) 28 c.cells).alloc (.cells #[.bool false, .slice none 0 0, .int .i64 0, .slice none 0 0] 36)
    rw [hw0]
    simpa using this
  have b2 : Blk w0 (w.heap.size + 1 + 1) 36 #[.bool false, .slice none 0 0, .int .i64 0, .slice none 0 0] := by
    have := Blk.new ((w.alloc (.cells o.cs 36)).alloc (.cells c.cells 28)) 36 #[.bool false, .slice none 0 0, .int .i64 0, .slice none 0 0]
    rw [hw0]
    simpa using this
  have HW := Lib.hid (And.intro hbel (And.intro b0 (And.intro b1 b2)))
  have HWE := Lib.hid hw0
  clear ho hoS hc hM hD hbel b0 b1 b2 hw0
  have HGD := Lib.hid (sgood_any o (HO.out.1.since HW.out.1))
  have HZERO : Hid (∀ (k : Nat) (w5 w6 : World), ChR o.v c.v km hd OV.zero k → Below w.heap.size w w5 → Blk w5 (w.heap.size + 1 + 1) 36 #[.bool false, .slice none 0 0, .int .i64 0, .slice none 0 0] → Only [w.heap.size + 1 + 1] w5 w6 → ChTo w (ChR o.v c.v km hd) (.returned (.tuple #[.agg #[.bool false, .slice none 0 0, .int .i64 0, .slice none 0 0], errV k])) w6) := Lib.hid fun k w5 w6 hr hb5 hb2 ho6 =>
    ⟨OA.zero, k, rfl, hr, OA.zero_N _ _, OA.zero_Sm, hb5.trans (ho6.below (B := w.heap.size) (fun k hk => by simp at hk; omega) hb5.size)⟩
  unfold OA.cs XA.cells at HWE
  have hcs : o.cs = #[.bool o.th, .slice o.D o.dt.length o.cd, .int .i64 o.sq, .slice o.C o.cl.length o.cc] := rfl
  have hxs : c.cells = #[.int .i64 c.sq, .slice c.S c.sn.length c.cs] := rfl
  rw [hcs] at HW HGD ⊢
  rw [hxs] at HW ⊢
  clear hcs hxs
  have hz : ∀ (w5 : World), Blk w5 (w.heap.size + 1 + 1) 36 #[.bool false, .slice none 0 0, .int .i64 0, .slice none 0 0] → Blk w5 (w.heap.size + 1 + 1) 36 #[.bool false, .slice none 0 0, .int .i64 0, .slice none 0 0] := fun _ h => h
  go_enter Try.func64, Try.ntmps64
  go_upto_region 1 with (fail)
  rw [← HWE.out]
  clear hz
  have K0 := HW.out.2.1
  go_wp2_with (have _h := K0; refine wpList_loadq rfl 36 (.tmp 4) rfl w.heap.size [.bool o.th, .slice o.D o.dt.length o.cd, .int .i64 o.sq, .slice o.C o.cl.length o.cc] _ rfl K0 Try.underlying36 rfl (by kernel_rfl) ?_; clear _h K0)
  refine HGD.out.mono ?_
  rintro e w1 ⟨bg, rfl, hg, hb1⟩
  have HA1 := Lib.hid (ChAt.next ⟨HW.out.1, HW.out.2.1, HW.out.2.2.1, HW.out.2.2.2⟩ hb1)
  have HG := Lib.hid hg
  clear hb1 hg HGD HWE HW
  cases bg with
  | false =>
    have K2 := HA1.out.b2
    go_wp2_with (have _h := K2; refine wpList_storeq rfl 36 (.tmp 8) (.tmp 15) rfl (w.heap.size + 1 + 1) #[.bool false, .slice none 0 0, .int .i64 0, .slice none 0 0] [.bool false, .slice none 0 0, .int .i64 0, .slice none 0 0] rfl rfl K2 rfl (by kernel_rfl) zero4_one ?_; clear _h K2; intro w9 K9 ho9 hs9)
    refine bodyPost_ret (res_cell_tmp rfl _ _ (w.heap.size + 1 + 1) [.bool false, .slice none 0 0, .int .i64 0, .slice none 0 0] _ _ rfl rfl K9 Try.underlying36 rfl (by kernel_rfl)) rfl ?_
    exact HZERO.out 2 w1 w9 (.bad (fun g => by have := HG.out.2 g; cases this)) HA1.out.bel HA1.out.b2 ho9
  | true =>
  have HGO := Lib.hid (HG.out.1 rfl)
  clear HG
  have K1 := HA1.out.b1
  have HCX := Lib.hid (isctx_any c (HO.out.2.2.since HA1.out.bel))
  unfold XA.cells at HCX
  go_wp2_with (have _h := K1; refine wpList_loadq rfl 28 (.tmp 5) rfl (w.heap.size + 1) [.int .i64 c.sq, .slice c.S c.sn.length c.cs] _ rfl K1 Try.underlying28 rfl (by kernel_rfl) ?_; clear _h K1)
  refine HCX.out.mono ?_
  rintro e w2 ⟨bc, rfl, hc, hb2⟩
  have HA2 := Lib.hid (HA1.out.next hb2)
  have HC := Lib.hid hc
  clear hb2 hc HCX HA1
  cases bc with
  | false =>
    have K2 := HA2.out.b2
    go_wp2_with (have _h := K2; refine wpList_storeq rfl 36 (.tmp 8) (.tmp 27) rfl (w.heap.size + 1 + 1) #[.bool false, .slice none 0 0, .int .i64 0, .slice none 0 0] [.bool false, .slice none 0 0, .int .i64 0, .slice none 0 0] rfl rfl K2 rfl (by kernel_rfl) zero4_one ?_; clear _h K2; intro w9 K9 ho9 hs9)
    refine bodyPost_ret (res_cell_tmp rfl _ _ (w.heap.size + 1 + 1) [.bool false, .slice none 0 0, .int .i64 0, .slice none 0 0] _ _ rfl rfl K9 Try.underlying36 rfl (by kernel_rfl)) rfl ?_
    exact HZERO.out 1 w2 w9 (.ctx HGO.out (fun g => by have := HC.out.2 g.1; cases this)) HA2.out.bel HA2.out.b2 ho9
  | true =>
  have HCG := Lib.hid (HC.out.1 rfl)
  clear HC
  have q1 : w2.cell? ⟨w.heap.size + 1, 0, none⟩ = some (.int .i64 c.sq) := HA2.out.b1.cell 0
  have q2 : w2.cell? ⟨w.heap.size, 2, none⟩ = some (.int .i64 o.sq) := HA2.out.b0.cell 2
  by_cases hlt : c.sq < o.sq
  · have d1 : decide (c.sq < o.sq) = true := decide_eq_true hlt
    have K2 := HA2.out.b2
    go_wp2_with (have _h := K2; refine wpList_storeq rfl 36 (.tmp 8) (.tmp 27) rfl (w.heap.size + 1 + 1) #[.bool false, .slice none 0 0, .int .i64 0, .slice none 0 0] [.bool false, .slice none 0 0, .int .i64 0, .slice none 0 0] rfl rfl K2 rfl (by kernel_rfl) zero4_one ?_; clear _h K2; intro w9 K9 ho9 hs9)
    refine bodyPost_ret (res_cell_tmp rfl _ _ (w.heap.size + 1 + 1) [.bool false, .slice none 0 0, .int .i64 0, .slice none 0 0] _ _ rfl rfl K9 Try.underlying36 rfl (by kernel_rfl)) rfl ?_
    exact HZERO.out 1 w2 w9 (.ctx HGO.out (fun g => by have h1 : o.sq ≤ c.sq := g.2; omega)) HA2.out.bel HA2.out.b2 ho9
  have d1 : decide (c.sq < o.sq) = false := decide_eq_false hlt
  have HLE : Hid (o.v.sq ≤ c.v.sq) := Lib.hid (by simp only [OA.v, XA.v]; omega)
  have HMC := Lib.hid (HM.out HGO.out w2 HA2.out.bel)
  go_wp2_with fail
  refine HMC.out.mono ?_
  rintro e w3 ⟨rfl, hb3⟩
  have HA3 := Lib.hid (HA2.out.next hb3)
  clear hb3 HMC HA2 q1 q2 d1 hlt
  by_cases hkm : km ≠ 0
  · have he := errV_some hkm
    have HZ := Lib.hid (HZERO.out km w3)
    rw [he] at HZ ⊢
    clear he
    have K2 := HA3.out.b2
    go_wp2_with (have _h := K2; refine wpList_storeq rfl 36 (.tmp 8) (.tmp 33) rfl (w.heap.size + 1 + 1) #[.bool false, .slice none 0 0, .int .i64 0, .slice none 0 0] [.bool false, .slice none 0 0, .int .i64 0, .slice none 0 0] rfl rfl K2 rfl (by kernel_rfl) zero4_one ?_; clear _h K2; intro w9 K9 ho9 hs9)
    refine bodyPost_ret (res_cell_tmp rfl _ _ (w.heap.size + 1 + 1) [.bool false, .slice none 0 0, .int .i64 0, .slice none 0 0] _ _ rfl rfl K9 Try.underlying36 rfl (by kernel_rfl)) rfl ?_
    exact HZ.out w9 (.may HGO.out HCG.out HLE.out hkm) HA3.out.bel HA3.out.b2 ho9
  have hk0 : km = 0 := Decidable.not_not.1 hkm
  subst hk0
  clear hkm
  have HLK := Lib.hid (like_any o HA3.out.b0 (HO.out.1.since HA3.out.bel) HO.out.2.1)
  unfold errV
  go_wp2_with fail
  refine HLK.out.mono ?_
  rintro e w4 ⟨q1, hv1, hs1, hN1, rfl, hb4⟩
  obtain ⟨w5, hw5⟩ : ∃ w5, w5 = w4.alloc (.cells q1.cs 36) := ⟨_, rfl⟩
  have hb5 : Below w4.heap.size w4 w5 := by rw [hw5]; exact below_alloc w4 _
  have KG5 : Blk w5 w4.heap.size 36 q1.cs := by rw [hw5]; exact Blk.new w4 _ _
  have hA3s := HA3.out.b2.lt
  have HA5 := Lib.hid ((HA3.out.next hb4).next hb5)
  have HQ1 := Lib.hid (And.intro hv1 (And.intro hs1 (And.intro (hN1.below hb5) KG5)))
  have HW5 := Lib.hid hw5
  have hz4 := hb4.size
  have hz5 := hb5.size
  have HZ4 : Hid (w.heap.size + 3 ≤ w3.heap.size ∧ w3.heap.size ≤ w4.heap.size ∧ w4.heap.size < w5.heap.size) := Lib.hid ⟨by omega, hz4, KG5.lt⟩
  clear hv1 hs1 hN1 hb4 hb5 KG5 hA3s hw5 hz4 hz5 HLK
  unfold OA.cs at HW5
  have hq1cs : q1.cs = #[.bool q1.th, .slice q1.D q1.dt.length q1.cd, .int .i64 q1.sq, .slice q1.C q1.cl.length q1.cc] := rfl
  rw [hq1cs]
  clear hq1cs
  obtain ⟨g, hg⟩ : ∃ g, g = w4.heap.size := ⟨_, rfl⟩
  have HGG := Lib.hid hg
  have K1 := HA5.out.b1
  have HSE := Lib.hid (callsIn_wide.1 (see_in (g := g) (base := w.heap.size) q1 c (by rw [hg]; exact HQ1.out.2.2.2) (OA.N.weaken HQ1.out.2.2.1 (by have := HZ4.out.1; omega)) HQ1.out.2.1 (HO.out.2.2.since HA5.out.bel) HA5.out.bel.size (by have := HCG.out.sn; simp only [XA.v] at this; omega)))
  unfold XA.cells at HSE
  go_upto_region 9 with (fail)
  rw [← HW5.out, ← hg]
  clear hg
  go_wp2_with (have _h := K1; refine wpList_loadq rfl 28 (.tmp 5) rfl (w.heap.size + 1) [.int .i64 c.sq, .slice c.S c.sn.length c.cs] _ rfl K1 Try.underlying28 rfl (by kernel_rfl) ?_; clear _h K1)
  refine HSE.out.mono ?_
  rintro e w6 ⟨rfl, q2, hv2, K6, hN2, ho6⟩
  have hA6 := HA5.out.only ho6 (fun k hk => by
    have h1 := HZ4.out.1
    have h2 := HZ4.out.2.1
    rcases List.mem_cons.1 hk with e | hk
    · have := HGG.out; omega
    · have := (OA.P.cU HQ1.out.2.2.1 k hk).1; omega)
  have hvo : q2.v = seeO o.v c.v := by rw [hv2, HQ1.out.1]
  have hgood := HGO.out
  have hcg := HCG.out
  have hSm2 : q2.Sm := see_Sm HO.out.2.1 (by have := hcg.sn; simpa [XA.v] using this) (by have := hgood.cn; simpa [OA.v, OA.vs_len] using this) hvo
  have hcl2 : q2.cl.length = (seeO o.v c.v).cl.length := by rw [← OA.vs_len, ← hvo]; rfl
  have HA6 := Lib.hid hA6
  have H2 := Lib.hid (And.intro hvo (And.intro K6 (And.intro hN2 (And.intro hSm2 hcl2))))
  have hg3 : w6.cell? ⟨g, 3, none⟩ = some (.slice q2.C q2.cl.length q2.cc) := K6.cell 3
  have HGW : Hid (w.heap.size + 3 ≤ g ∧ g < w6.heap.size) := Lib.hid ⟨by have := HZ4.out.1; have := HZ4.out.2.1; have := HGG.out; omega, K6.lt⟩
  have hc2l : q2.cl.length ≤ 1000 := hSm2.cn
  clear hv2 K6 hN2 ho6 hA6 hvo hgood hcg hSm2 hcl2 HSE HQ1 HA5 HZ4 HGG HW5 HA3
  by_cases hmany : (16 : Int) < (q2.cl.length : Int)
  · have d1 : decide ((16 : Int) < (q2.cl.length : Int)) = true := decide_eq_true hmany
    have K2 := HA6.out.b2
    go_wp2_with (have _h := K2; refine wpList_storeq rfl 36 (.tmp 8) (.tmp 42) rfl (w.heap.size + 1 + 1) #[.bool false, .slice none 0 0, .int .i64 0, .slice none 0 0] [.bool false, .slice none 0 0, .int .i64 0, .slice none 0 0] rfl rfl K2 rfl (by kernel_rfl) zero4_one ?_; clear _h K2; intro w9 K9 ho9 hs9)
    refine bodyPost_ret (res_cell_tmp rfl _ _ (w.heap.size + 1 + 1) [.bool false, .slice none 0 0, .int .i64 0, .slice none 0 0] _ _ rfl rfl K9 Try.underlying36 rfl (by kernel_rfl)) rfl ?_
    exact HZERO.out 1 w6 w9 (.many HGO.out HCG.out HLE.out rfl (by rw [← H2.out.2.2.2.2]; omega)) HA6.out.bel HA6.out.b2 ho9
  have d1 : decide ((16 : Int) < (q2.cl.length : Int)) = false := decide_eq_false hmany
  have HDD := Lib.hid (HD.out HGO.out HCG.out HLE.out (by first | rfl | trivial) (by rw [← H2.out.2.2.2.2]; omega))
  have HDO := Lib.hid (HDD.out w6 g q2 HA6.out.bel (by have := HGW.out.1; omega) H2.out.2.1 H2.out.2.2.1 H2.out.2.2.2.1 H2.out.1)
  go_wp2_with fail
  refine HDO.out.mono ?_
  rintro e w7 ⟨rfl, q3, hv3, K7, hN3, hS3, ho7⟩
  have hb27 : Blk w7 (w.heap.size + 1 + 1) 36 #[.bool false, .slice none 0 0, .int .i64 0, .slice none 0 0] := HA6.out.b2.only ho7 (fun hm => by
    rcases List.mem_cons.1 hm with e | hm
    · have := HGW.out.1; omega
    · obtain ⟨-, -, cs, hb⟩ := OA.P.dU H2.out.2.2.1 _ hm
      exact hb.ne_ HA6.out.b2 (by decide) rfl)
  have hbel7 : Below w.heap.size w w7 := HA6.out.bel.trans (ho7.below (B := w.heap.size) (fun k hk => by
    rcases List.mem_cons.1 hk with e | hk
    · have := HGW.out.1; omega
    · exact (OA.P.dU H2.out.2.2.1 k hk).1) HA6.out.bel.size)
  have K7' : Blk w7 g 36 [Value.bool q3.th, .slice q3.D q3.dt.length q3.cd, .int .i64 q3.sq, .slice q3.C q3.cl.length q3.cc].toArray := K7
  have HB27 := Lib.hid hb27
  have H7 := Lib.hid (And.intro hv3 (And.intro hN3 (And.intro hS3 hbel7)))
  have HMN : Hid (q2.cl.length ≤ 16) := Lib.hid (by omega)
  clear hv3 hN3 hS3 ho7 hb27 hbel7 K7 hg3 d1 HDO hmany
  go_wp2_with (first
    | (have _h := K7'; refine wpList_loadq rfl 36 (.tmp 11) rfl g [.bool q3.th, .slice q3.D q3.dt.length q3.cd, .int .i64 q3.sq, .slice q3.C q3.cl.length q3.cc] _ rfl K7' Try.underlying36 rfl (by kernel_rfl) ?_; clear _h K7')
    | (refine wpList_storeq rfl 36 (.tmp 8) (.tmp 46) rfl (w.heap.size + 1 + 1) #[.bool false, .slice none 0 0, .int .i64 0, .slice none 0 0] [.bool q3.th, .slice q3.D q3.dt.length q3.cd, .int .i64 q3.sq, .slice q3.C q3.cl.length q3.cc] rfl rfl HB27.out rfl (by kernel_rfl) (OA.cs_one q3) ?_; intro w9 K9 ho9 hs9))
  refine bodyPost_ret (res_cell_tmp rfl _ _ (w.heap.size + 1 + 1) [.bool q3.th, .slice q3.D q3.dt.length q3.cd, .int .i64 q3.sq, .slice q3.C q3.cl.length q3.cc] _ _ rfl rfl K9 Try.underlying36 rfl (by kernel_rfl)) rfl ?_
  refine ⟨q3, 0, rfl, ?_, ?_, H7.out.2.2.1, H7.out.2.2.2.trans (ho9.below (B := w.heap.size) (fun k hk => by simp at hk; omega) H7.out.2.2.2.size)⟩
  · rw [H7.out.1, H2.out.1]
    exact .ok HGO.out HCG.out HLE.out rfl (by rw [← H2.out.2.2.2.2]; exact HMN.out)
  · refine OA.P.typed H7.out.2.1 fun k t cs hb ht => ho9.block k hb.lt (fun hm => ?_)
    simp at hm
    subst hm
    refine hb.ne_ HB27.out ?_ rfl
    rcases ht with rfl | rfl | rfl <;> decide
end Go.Proofs.Yteghbfkkpnlilaa

/-
  Rows of bytes of the call's own: noughts behind them, their beginnings and ends, bytes written into them; an object's head changed in memory. No condition but the sizes.
-/
namespace Go.Proofs.Yteghbfkkpnlilaa
open Go.RowKit Go.BigFrame
set_option linter.unusedSimpArgs false
set_option linter.unusedVariables false
set_option maxRecDepth 100000
theorem zero_list (k : Nat) : (Builtin.zeroCells (Value.int .u8 0).cells k).toList = List.replicate k (Value.int .u8 0) := by
  apply List.ext_getElem?
  intro j
  by_cases hj : j < k
  · simp [Builtin.zeroCells, Value.cells, hj, Nat.mod_one]
  · simp [Builtin.zeroCells, Value.cells, hj]
theorem zero_arr (k : Nat) : Builtin.zeroCells (Value.int .u8 0).cells k = (List.replicate k (Value.int .u8 0)).toArray := by
  rw [← zero_list]
theorem run_zeros_own {w : World} {base n k : Nat} {v : Value} {xs : List Value} (hown : w.ownsRow base 5 1 v n xs) (h0 : 0 < k) (hn : n + k ≤ 10000000) (hbase : base ≤ w.heap.size) (ty : TypeId) :
    ∃ v' w', (Builtin.append_ #[22, 3] ty #[v, .int .i64 (k : Int)]).run Try.prog w = .ok v' w' ∧ w'.ownsRow base 5 1 v' (n + k) (xs ++ List.replicate k (Value.int .u8 0)) ∧ w.grownBy w' v.ownBlock ∧ (v'.ownBlock = v.ownBlock ∨ v'.ownBlock = some w.heap.size) := by
  obtain ⟨i0, hi0, hz0, hz1, hz2⟩ := info_parts byte_info
  have hlen : (xs ++ List.replicate k (Value.int .u8 0)).length = (n + k) * 1 := by rw [List.length_append, hown.1]; simp
  have grown : ∀ (old : Nat), old < n + k → ∀ (row : Option Nat),
      (w.drew.alloc (.cells (xs.toArray ++ Builtin.zeroCells (Value.int .u8 0).cells k ++ Builtin.zeroCells (Value.int .u8 0).cells (grownCap w (n + k) old 5 - (n + k))) 5)).ownsRow base 5 1
        (.slice (some ⟨w.heap.size, 0, none⟩) (n + k) (grownCap w (n + k) old 5)) (n + k) (xs ++ List.replicate k (Value.int .u8 0)) ∧
      w.grownBy (w.drew.alloc (.cells (xs.toArray ++ Builtin.zeroCells (Value.int .u8 0).cells k ++ Builtin.zeroCells (Value.int .u8 0).cells (grownCap w (n + k) old 5 - (n + k))) 5)) row := by
    intro old ho row
    have hge := grownCap_ge w (n + k) old 5
    have hcm : grownCap w (n + k) old 5 ≤ maxLen := grownCap_le_maxLen w (n + k) old 5 (by simp only [maxLen]; omega)
    refine ⟨⟨hlen, .inr ⟨w.heap.size, _, _, rfl, hbase, heap_alloc_new w.drew _, hge, hcm, ?_, ?_⟩⟩, ⟨rfl, rfl, rfl, by simp, fun j hj _ => heap_alloc_old w.drew _ hj⟩⟩
    · simp only [Array.size_append, List.size_toArray, size_zeroCells, hown.1]
      simp [Value.cells]
      omega
    · rw [zero_arr, zero_arr]
      simp only [Array.toList_append, List.append_assoc]
      rw [← List.append_assoc, ← hlen]
      exact List.take_left
  rcases hown.2 with ⟨rfl, rfl⟩ | ⟨g, cap, cur, rfl, hbg, hg, hnc, hcm, hcs, htake⟩
  · have hx : xs = [] := List.eq_nil_of_length_eq_zero (by simpa using hown.1)
    subst hx
    have hr := Lib.run_append_nil_zeros (P := Try.prog) w 22 3 ty 5 i0 (.int .u8 0) .i64 .i64 Try.underlying22 Try.underlying3 hi0 hz0 k h0 (by omega) (by omega) (by rw [hz2]; omega)
    have hgr := grown 0 (by omega) (Value.ownBlock (.slice none 0 0))
    simp only [Nat.zero_add, List.nil_append, Array.empty_append] at hgr ⊢
    exact ⟨_, _, hr, hgr.1, hgr.2, .inr rfl⟩
  · by_cases hroom : n + k ≤ cap
    · have hst := run_storeCells_at Try.prog g n 5 (List.replicate k (Value.int .u8 0)) 0 cur w hg (by simp; omega) (fun u hu => by rw [List.eq_of_mem_replicate hu]; rfl)
      simp only [Nat.add_zero] at hst
      have hkk : k ≠ 0 := by omega
      have hw : IntKind.i64.wrap (k : Int) = k := by rw [IntKind.wrap_i64]; omega
      have hneg : ¬ ((k : Int) < 0) := by omega
      have h48i : ¬ (281474976710656 < (k : Int) * (i0.bytes : Int)) := by rw [hz2]; omega
      have hns : ¬ (k * i0.size = 0) := by rw [hz1]; omega
      have hr : (Builtin.append_ #[22, 3] ty #[.slice (some ⟨g, 0, none⟩) n cap, .int .i64 (k : Int)]).run Try.prog w = .ok (.slice (some ⟨g, 0, none⟩) (n + k) cap) (w.setRow g (cur.toList.take n ++ List.replicate k (Value.int .u8 0) ++ cur.toList.drop (n + (List.replicate k (Value.int .u8 0)).length)).toArray) := by
        have hz := zero_list k
        simp [Builtin.append_, run_underlying Try.underlying22, run_underlying Try.underlying3, sizeOf, typeInfo, zeroValue, hi0, hz0, hz1, asInt, asIntOf, hw, hneg, h48i, hkk, hroom, Addr.add_lit] at hst ⊢
        rw [zero_arr]
        simp [hst]
      refine ⟨_, _, hr, ⟨hlen, .inr ⟨g, cap, _, rfl, hbg, setRow_heap w g cur _ 5 _ hg, hroom, hcm, ?_, ?_⟩⟩, ⟨rfl, rfl, rfl, by simp, fun j _ hj => setRow_other w g j _ (fun e => hj (by simp [Value.ownBlock, e]))⟩, .inl rfl⟩
      · simp only [List.size_toArray, List.length_append, List.length_take, List.length_drop, Array.length_toList, List.length_replicate]
        omega
      · have ht : cur.toList.take n = xs := by simpa using htake
        rw [ht, ← hlen]
        exact List.take_left
    · have holds : ∀ j u, xs[j]? = some u → w.cell? ((⟨g, 0, none⟩ : Addr).add j) = some u := hown.cells (g := g) rfl
      have hold := run_firstCells_some (P := Try.prog) w.drew i0.size n ⟨g, 0, none⟩ n cap xs (by rw [hz1]; exact hown.1) holds
      have hr := Lib.run_append_grow_zeros (P := Try.prog) w 22 3 ty 5 i0 (.int .u8 0) .i64 .i64 Try.underlying22 Try.underlying3 hi0 hz0 (some ⟨g, 0, none⟩) n cap xs hold k h0 (by omega) (by omega) (by omega) (by rw [hz2]; omega) (growslice_fits (by omega) (by rw [hz2]; omega))
      have hgr := grown cap (by omega) (Value.ownBlock (.slice (some ⟨g, 0, none⟩) n cap))
      exact ⟨_, _, hr, hgr.1, hgr.2, .inr rfl⟩
theorem own_len {w : World} {base n m c : Nat} {D : Option Addr} {bs : List Nat} (h : Own w base (.slice D m c) n bs) : m = n ∧ bs.length = n ∧ n ≤ c ∧ (D = none ∨ ∃ b, D = some ⟨b, 0, none⟩) := by
  have hl : bs.length = n := by have := h.1; rw [u8s_length] at this; omega
  rcases h.2 with ⟨e, h0⟩ | ⟨b, cap, cur, e, hb, hh, h1, _⟩
  · injection e with e1 e2 e3
    exact ⟨by omega, hl, by omega, .inl e1⟩
  · injection e with e1 e2 e3
    exact ⟨e2, hl, by omega, .inr ⟨b, e1⟩⟩
theorem run_head_bytes (D : Option Addr) (m c n : Nat) (h : n ≤ c) (hD : D = none ∨ ∃ b, D = some ⟨b, 0, none⟩) (w : World) : (Instr.slice 22 (.slice D m c) none (some (.int .i64 (n : Int))) none).run Try.prog w = .ok (.slice D n c) w := by
  have hsz : ∀ w, (sizeOf (Try.prog.elem 22)).run Try.prog w = .ok 1 w := fun w => by kernel_rfl
  rw [run_slice_h w 22 D m c (by kernel_rfl) .i64 (n : Int) (by omega) (by omega), hsz]
  rcases hD with rfl | ⟨b, rfl⟩
  · simp [Result.andThen, sliced]
  · simp [Result.andThen, sliced, Addr.add]
theorem run_cut_bytes (A : Option Addr) (m c k : Nat) (hk : k ≤ m) (w : World) : (Instr.slice 22 (.slice A m c) (some (.int .i64 k)) none none).run Try.prog w = .ok (.slice (if c = k then A else A.map (·.add (k * 1))) (m - k) (c - k)) w := by
  have hsz : ∀ w, (sizeOf (Try.prog.elem 22)).run Try.prog w = .ok 1 w := fun w => by kernel_rfl
  rw [run_slice_l w 22 A m c (by kernel_rfl) .i64 k (by omega) (by omega), hsz]
  simp only [Result.andThen, sliced, Int.toNat_natCast]
theorem own_copy {w : World} {base b n c at_ : Nat} {R nb : List Nat} (h : Own w base (.slice (some ⟨b, 0, none⟩) n c) n R) (hk : at_ + nb.length ≤ n) : ∃ cur : Array Value, Blk w b 5 cur ∧ at_ + nb.length ≤ cur.size ∧
    Own (w.setRow b (cur.toList.take at_ ++ u8s nb ++ cur.toList.drop (at_ + (u8s nb).length)).toArray) base (.slice (some ⟨b, 0, none⟩) n c) n (R.take at_ ++ nb ++ R.drop (at_ + nb.length)) ∧ Only [b] w (w.setRow b (cur.toList.take at_ ++ u8s nb ++ cur.toList.drop (at_ + (u8s nb).length)).toArray) := by
  obtain ⟨-, hl, -, -⟩ := own_len h
  rcases h.2 with ⟨e, h0⟩ | ⟨b', cap, cur, e, hb, hh, h1, h2, h3, h4⟩
  · cases e
  · injection e with e1 e2 e3
    injection e1 with e1
    injection e1 with e1
    subst e1 e3
    refine ⟨cur, hh, by omega, ⟨?_, .inr ⟨b, c, _, rfl, hb, setRow_heap w b cur _ 5 _ hh, h1, h2, ?_, ?_⟩⟩, ⟨rfl, rfl, rfl, by simp [World.setRow], fun k _ hk => setRow_other w b k _ (fun e => hk (by simp [e]))⟩⟩
    · rw [u8s_length]
      simp
      omega
    · simp [u8s_length]
      omega
    · have hcl : cur.toList.length = c := by simp; omega
      have h4' : cur.toList.take n = u8s R := by simpa using h4
      apply List.ext_getElem?
      intro j
      have hR : ∀ j, j < n → cur.toList[j]? = (u8s R)[j]? := fun j hj => by rw [← h4', List.getElem?_take, if_pos hj]
      have hu : u8s (R.take at_ ++ nb ++ R.drop (at_ + nb.length)) = (u8s R).take at_ ++ u8s nb ++ (u8s R).drop (at_ + nb.length) := by simp [u8s, List.map_take, List.map_drop]
      rw [hu, Nat.mul_one, List.getElem?_take]
      have hul : (u8s R).length = n := by rw [u8s_length]; exact hl
      by_cases hj : j < n
      · rw [if_pos hj]
        simp only [List.toList_toArray, List.getElem?_append, List.length_append, List.length_take, List.getElem?_take, List.getElem?_drop, u8s_length]
        rw [show min at_ cur.toList.length = at_ by omega, show min at_ R.length = at_ by omega]
        by_cases h5 : j < at_
        · rw [if_pos (by omega), if_pos h5, if_pos h5, if_pos (by omega), if_pos h5, if_pos h5]
          exact hR j hj
        · by_cases h6 : j < at_ + nb.length
          · rw [if_pos (by omega), if_neg h5, if_pos (by omega), if_neg h5]
          · rw [if_neg (by omega), if_neg (by omega)]
            rw [show at_ + nb.length + (j - (at_ + nb.length)) = j by omega]
            exact hR j hj
      · rw [if_neg hj, List.getElem?_eq_none]
        simp [u8s_length]
        omega
theorem run_zeros_none {w : World} {base n : Nat} {v : Value} {xs : List Value} (hown : w.ownsRow base 5 1 v n xs) (ty : TypeId) :
    (Builtin.append_ #[22, 3] ty #[v, .int .i64 0]).run Try.prog w = .ok v w := by
  obtain ⟨i0, hi0, hz0, hz1, hz2⟩ := info_parts byte_info
  rcases hown.2 with ⟨rfl, rfl⟩ | ⟨g, cap, cur, rfl, hbg, hg, hnc, hcm, hcs, htake⟩
  · simp [Builtin.append_, run_underlying Try.underlying22, run_underlying Try.underlying3, sizeOf, typeInfo, zeroValue, hi0, hz0, hz1, asInt, asIntOf, IntKind.wrap_i64]
  · have hst : (storeCells ⟨g, n, none⟩ []).run Try.prog w = .ok () w := by simp [storeCells]
    simp [Builtin.append_, run_underlying Try.underlying22, run_underlying Try.underlying3, sizeOf, typeInfo, zeroValue, hi0, hz0, hz1, asInt, asIntOf, IntKind.wrap_i64, hnc, storeCells, Builtin.zeroCells]
theorem OA.N.data {q : OA} {w w' : World} {g base c' : Nat} {cs : Array Value} {D' : Option Addr} {bs : List Nat} {th : Bool} (h : q.N w base) (K : Blk w g 36 cs) (ho : Only (g :: rowOf (.slice q.D 0 0)) w w') (hown : Own w' base (.slice D' bs.length c') bs.length bs) (hok : ∀ b ∈ bs, b < 256)
    (hnew : ∀ k ∈ rowOf (.slice D' 0 0), k ∈ rowOf (.slice q.D 0 0) ∨ w.heap.size ≤ k) : OA.N {q with th := th, dt := bs, D := D', cd := c'} w' base := by
  have hdis : ∀ a ∈ q.cl.map CA.dR, ∀ k ∈ rowOf (.slice q.D 0 0), k ∉ a := by
    have := h.dD
    unfold Dis at this
    rw [List.pairwise_cons] at this
    exact this.1
  have hkeep : ∀ k t cs', Blk w k t cs' → t = 3 ∨ t = 79 ∨ (t = 5 ∧ k ∉ rowOf (.slice q.D 0 0)) → w'.heap[k]? = w.heap[k]? := fun k t cs' hb ht => ho.block k hb.lt (fun hm => by
    rcases List.mem_cons.1 hm with e | hm
    · subst e
      refine hb.ne_ K ?_ rfl
      rcases ht with rfl | rfl | ⟨rfl, _⟩ <;> decide
    · obtain ⟨_, _, cs2, hb2⟩ := OA.P.dU h k hm
      rcases ht with rfl | rfl | ⟨_, hn⟩
      · exact hb.ne_ hb2 (by decide) rfl
      · exact hb.ne_ hb2 (by decide) rfl
      · exact hn hm)
  have hN : ∀ c ∈ q.cl, c.N w' base := fun c hc => (h.cl c hc).of (fun k hm => by obtain ⟨_, _, cs2, hb⟩ := (h.cl c hc).sU k hm; exact hkeep k _ cs2 hb (.inl rfl)) (fun k hm => by
    obtain ⟨_, _, cs2, hb⟩ := (h.cl c hc).dU k hm
    exact hkeep k _ cs2 hb (.inr (.inr ⟨rfl, fun hx => hdis _ (List.mem_map.2 ⟨c, hc, rfl⟩) k hx hm⟩)))
  refine ⟨hown, hok, row_of h.row fun k hk => by obtain ⟨cs2, hb⟩ := own_ty h.row hk; exact hkeep k _ cs2 hb (.inr (.inl rfl)), hN, h.q1, h.q2, ?_, h.dS⟩
  have h1 := h.dD
  unfold Dis at h1 ⊢
  rw [List.pairwise_cons] at h1 ⊢
  refine ⟨fun a ha k hk hx => ?_, h1.2⟩
  rcases hnew k hk with e | e
  · exact h1.1 a ha k e hx
  · obtain ⟨c, hc, rfl⟩ := List.mem_map.1 ha
    have := ((h.cl c hc).dU k hx).2.1
    omega
theorem DoesTo.of {w1 w' : World} {g base c' : Nat} {q : OA} {D' : Option Addr} {bs : List Nat} {th : Bool} {hd : Option (List Nat)} (h : q.N w1 base) (hS : q.Sm) (K : Blk w1 g 36 q.cs) (ho : Only (g :: rowOf (.slice q.D 0 0)) w1 w') (hown : Own w' base (.slice D' bs.length c') bs.length bs) (hok : ∀ b ∈ bs, b < 256)
    (hnew : ∀ k ∈ rowOf (.slice D' 0 0), k ∈ rowOf (.slice q.D 0 0) ∨ w1.heap.size ≤ k) (hl : bs.length ≤ 10000) (K' : Blk w' g 36 #[.bool th, .slice D' bs.length c', .int .i64 q.sq, .slice q.C q.cl.length q.cc]) (hh : hd = if th = true then some bs else none) (hth : th = false → bs = []) :
    DoesTo w1 g base q hd (.returned (.tuple #[])) w' := by
  refine ⟨rfl, {q with th := th, dt := bs, D := D', cd := c'}, ?_, K', h.data K ho hown hok hnew, ⟨hl, hS.cn, hS.cl⟩, ho⟩
  subst hh
  cases th with
  | true => rfl
  | false =>
    have := hth rfl
    subst this
    rfl
end Go.Proofs.Yteghbfkkpnlilaa

/-
  What may be done with an object's head, and what is done: Drop, Cut, Back. Conditions: the object lies where it is said to.
-/
namespace Go.Proofs.Yteghbfkkpnlilaa
open Go.RowKit Go.BigFrame
set_option linter.unusedSimpArgs false
set_option linter.unusedVariables false
set_option maxRecDepth 100000
/-! ### Drop -/
/-! ### Cut -/
end Go.Proofs.Yteghbfkkpnlilaa

/-
  What may be done with an object's head, and what is done: Zero, Back. Conditions: the object lies where it is said to.
-/
namespace Go.Proofs.Yteghbfkkpnlilaa
open Go.RowKit Go.BigFrame
set_option linter.unusedSimpArgs false
set_option linter.unusedVariables false
set_option maxRecDepth 100000
/-! ### Back -/
end Go.Proofs.Yteghbfkkpnlilaa
