/-
  A snapshot is forgotten. Conditions: the object reads as it is said to, and is small.
-/
import Derived.Test.YtcbpdalfindmgaaZf
import Derived.Lib.SlBytesConst

namespace Go.Proofs.Ytcbpdalfindmgaa
open Go.RowKit Go.BigFrame
set_option linter.unusedSimpArgs false
set_option linter.unusedVariables false
set_option maxRecDepth 100000
theorem add_zero_off' (g o : Nat) : (⟨g, o, none⟩ : Addr).add 0 = ⟨g, o, none⟩ := by simp [Addr.add]
inductive TrR (o : OV) (s : Int) : OV → Nat → Prop
  | bad : ¬ Good o → TrR o s OV.zero 2
  | rng : Good o → s < 1 → TrR o s OV.zero 1
  | ok : Good o → 1 ≤ s → TrR o s (trimO o s) 0
theorem TrR.one {o : OV} {s : Int} {x y : OV} {k j : Nat} (h : TrR o s x k) (h' : TrR o s y j) : x = y ∧ k = j := by
  cases h <;> cases h' <;> first
    | exact ⟨rfl, rfl⟩
    | (exfalso; contradiction)
    | (exfalso; omega)
theorem flat_set1 : ∀ (L : List CA) (k : Nat) (c : CA) (l' : List Int), L[k]? = some c → (L.flatMap CA.cells).set (k * 2) (.slice c.S l'.length c.cs) = (L.set k {c with sn := l'}).flatMap CA.cells
  | [], k, c, l', h => by simp at h
  | x :: L, 0, c, l', h => by
    simp at h
    subst h
    simp [CA.cells]
  | x :: L, k + 1, c, l', h => by
    have ih := flat_set1 L k c l' (by simpa using h)
    rw [List.set_cons_succ, List.flatMap_cons, List.flatMap_cons, ← ih]
    have e1 : (k + 1) * 2 = x.cells.length + k * 2 := by rw [CA.cells_len]; omega
    rw [e1, List.set_append_right _ _ (by omega), show x.cells.length + k * 2 - x.cells.length = k * 2 by omega]
def trimA (s : Int) (c : CA) : CA := {c with sn := noI s c.sn}
/-- a clone has other snapshots, in its own place -/
theorem OA.N.setSn {q : OA} {w w1 : World} {base r k : Nat} {c : CA} {l' : List Int} (h : q.N w base) (hk : q.cl[k]? = some c) (ho : Only (rowOf (.slice c.S 0 0)) w w1) (hown : OwnI w1 base (.slice c.S l'.length c.cs) l'.length l') (hl : ∀ s ∈ l', -9223372036854775808 ≤ s ∧ s ≤ 9223372036854775807) (hr : q.C = some ⟨r, 0, none⟩) :
    OA.N {q with cl := q.cl.set k {c with sn := l'}} (w1.setCell ⟨r, k * 2, none⟩ (.slice c.S l'.length c.cs)) base ∧ Only (r :: rowOf (.slice c.S 0 0)) w (w1.setCell ⟨r, k * 2, none⟩ (.slice c.S l'.length c.cs)) := by
  have hlt := (List.getElem?_eq_some_iff.1 hk).1
  have hcm := List.mem_of_getElem? hk
  have hcS : ∀ x ∈ rowOf (.slice c.S 0 0), ∃ cs, Blk w x 3 cs := fun x hx => ((h.cl c hcm).sU x hx).2.2
  have hkeep : ∀ x t cs, Blk w x t cs → t = 5 ∨ t = 79 → w1.heap[x]? = w.heap[x]? := fun x t cs hb ht => ho.block x hb.lt (fun hm => by
    obtain ⟨cs', hb'⟩ := hcS x hm
    refine hb.ne_ hb' ?_ rfl
    rcases ht with rfl | rfl <;> decide)
  obtain ⟨-, -, crs, hcr⟩ := OA.P.cU h r (by rw [hr]; simp [rowOf, Value.ownBlock])
  have hcr1 : Blk w1 r 79 crs := hcr.of (hkeep r _ _ hcr (.inr rfl))
  have hset : ∀ x t cs, Blk w1 x t cs → t = 5 ∨ t = 3 → (w1.setCell ⟨r, k * 2, none⟩ (.slice c.S l'.length c.cs)).heap[x]? = w1.heap[x]? := fun x t cs hb ht => Below.heap_setCell _ _ _ _ (fun e => by
    refine hb.ne_ hcr1 ?_ e
    rcases ht with rfl | rfl <;> decide)
  have hrow0 := h.row
  rw [List.append_nil, hr] at hrow0
  have hrow1 : OwnC 79 w1 base (.slice (some ⟨r, 0, none⟩) q.cl.length q.cc) q.cl := row_of hrow0 fun x hx => by obtain ⟨cs, hb⟩ := own_ty hrow0 hx; exact hkeep x _ cs hb (.inr rfl)
  have hrow2 := (World.ownsRow.stored hrow1 (k * 2) (.slice c.S l'.length c.cs)).1
  rw [flat_set1 q.cl k c l' hk] at hrow2
  have hD : ∀ c' ∈ q.cl, ∀ x ∈ c'.dR, (w1.setCell ⟨r, k * 2, none⟩ (.slice c.S l'.length c.cs)).heap[x]? = w.heap[x]? := fun c' hc' x hx => by
    obtain ⟨_, _, cs, hb⟩ := (h.cl c' hc').dU x hx
    have e := hkeep x _ cs hb (.inl rfl)
    exact (hset x _ cs (hb.of e) (.inl rfl)).trans e
  have hsR : (q.cl.set k {c with sn := l'}).map CA.sR = q.cl.map CA.sR := by
    rw [List.map_set]
    apply List.ext_getElem?
    intro j
    rw [List.getElem?_set]
    split
    · rename_i e
      subst e
      rw [List.getElem?_map, hk]
      simp [hlt]
      rfl
    · rfl
  have hdR : (q.cl.set k {c with sn := l'}).map CA.dR = q.cl.map CA.dR := by
    rw [List.map_set]
    apply List.ext_getElem?
    intro j
    rw [List.getElem?_set]
    split
    · rename_i e
      subst e
      rw [List.getElem?_map, hk]
      simp [hlt]
      rfl
    · rfl
  have hnew : CA.N {c with sn := l'} (w1.setCell ⟨r, k * 2, none⟩ (.slice c.S l'.length c.cs)) base :=
    ⟨row_of hown fun x hx => by obtain ⟨cs, hb⟩ := own_ty hown hx; exact hset x _ cs hb (.inr rfl), row_of (h.cl c hcm).dt fun x hx => hD c hcm x (by rw [CA.dR, row_slice _ 0 0 c.dt.length c.cd]; exact hx), (h.cl c hcm).ok, hl⟩
  have hold : ∀ j c', q.cl[j]? = some c' → j ≠ k → CA.N c' (w1.setCell ⟨r, k * 2, none⟩ (.slice c.S l'.length c.cs)) base := fun j c' hj hne => by
    have hcm' := List.mem_of_getElem? hj
    refine (h.cl c' hcm').of (fun x hx => ?_) (hD c' hcm')
    obtain ⟨_, hxl, cs, hb⟩ := (h.cl c' hcm').sU x hx
    have e : w1.heap[x]? = w.heap[x]? := ho.block x hxl (fun hm => by
      have hd := h.dS
      unfold Dis at hd
      rw [List.pairwise_iff_getElem] at hd
      have hjl := (List.getElem?_eq_some_iff.1 hj).1
      have ej : q.cl[j] = c' := (List.getElem?_eq_some_iff.1 hj).2
      have ek : q.cl[k] = c := (List.getElem?_eq_some_iff.1 hk).2
      rcases Nat.lt_or_ge j k with hjk | hjk
      · have := hd j k (by simpa using hjl) (by simpa using hlt) hjk
        simp only [List.getElem_map, ej, ek] at this
        exact this x hx hm
      · have := hd k j (by simpa using hlt) (by simpa using hjl) (by omega)
        simp only [List.getElem_map, ej, ek] at this
        exact this x hm hx)
    exact (hset x _ cs (hb.of e) (.inr rfl)).trans e
  refine ⟨⟨row_of h.dt fun x hx => by
    obtain ⟨cs, hb⟩ := own_ty h.dt hx
    have e := hkeep x _ cs hb (.inl rfl)
    exact (hset x _ cs (hb.of e) (.inl rfl)).trans e, h.ok, ?_, fun c' hc' => ?_, h.q1, h.q2, ?_, ?_⟩, ?_⟩
  · rw [List.append_nil]
    unfold OwnC
    simp only [List.length_set]
    rw [hr]
    exact hrow2
  · obtain ⟨j, hj, hjc⟩ := List.mem_iff_getElem.1 hc'
    have hj2 : (q.cl.set k {c with sn := l'})[j]? = some c' := by rw [List.getElem?_eq_getElem hj, hjc]
    rw [List.getElem?_set] at hj2
    split at hj2
    · injection hj2 with hj2
      subst hj2
      exact hnew
    · rename_i hne
      exact hold j c' hj2 (fun e => hne e.symm)
  · show Dis (rowOf (.slice q.D 0 0) :: (q.cl.set k {c with sn := l'}).map CA.dR)
    rw [hdR]
    exact h.dD
  · show Dis ((q.cl.set k {c with sn := l'}).map CA.sR)
    rw [hsR]
    exact h.dS
  · exact (ho.mono (fun x hx => by simp [hx])).setCell (.inl (by simp)) _
theorem trim_vs (s : Int) (cl : List CA) : (fullC (cl.map (trimA s))).map CA.v = trimCl (cl.map CA.v) s := by
  unfold fullC trimCl
  rw [List.map_map]
  induction cl with
  | nil => rfl
  | cons c cl ih =>
    simp only [List.map_cons, Function.comp]
    rw [List.filter_cons, List.filter_cons]
    have e : decide ((trimA s c).sn ≠ []) = decide ((⟨List.filter (fun x => decide (x ≠ s)) (CA.v c).sn, (CA.v c).dt⟩ : ClV).sn ≠ []) := rfl
    rw [e]
    split
    · rw [List.map_cons, ih]; rfl
    · exact ih
theorem trim_step (s : Int) (cl : List CA) (k : Nat) (c : CA) (hk : cl[k]? = some c) : ((cl.take k).map (trimA s) ++ cl.drop k).set k (trimA s c) = (cl.take (k + 1)).map (trimA s) ++ cl.drop (k + 1) := by
  have hl := (List.getElem?_eq_some_iff.1 hk).1
  have h1 : cl.drop k = c :: cl.drop (k + 1) := by rw [List.drop_eq_getElem_cons hl, (List.getElem?_eq_some_iff.1 hk).2]
  have h2 : ((cl.take k).map (trimA s)).length = k := by simp; omega
  rw [h1, List.set_append_right _ _ (by omega), h2, Nat.sub_self, List.set_cons_zero, take_snocI hk, List.map_append, List.append_assoc]
  rfl
/-- memory while clones lose a snapshot -/
structure Trims (w : World) (o q : OA) (s : Int) (g base : Nat) (cl : List CA) (wr : World) : Prop where
  bel : Below w.heap.size w wr
  b1 : Blk wr (w.heap.size + 1) 3 #[.int .i64 s]
  b2 : Blk wr (w.heap.size + 1 + 1) 36 #[.bool false, .slice none 0 0, .int .i64 0, .slice none 0 0]
  g0 : Blk wr g 36 #[.bool q.th, .slice q.D q.dt.length q.cd, .int .i64 q.sq, .slice q.C q.cl.length q.cc]
  own : OA.N {q with cl := cl} wr base
theorem OA.N.keepsub {q : OA} {w w' : World} {base c' : Nat} {C' : Option Addr} {cl' : List CA} (h : q.N w base) (hs : cl'.Sublist q.cl) (ho : Only (rowOf (.slice q.C 0 0)) w w') (hrow : OwnC 79 w' base (.slice C' cl'.length c') cl') : OA.N {q with C := C', cc := c', cl := cl'} w' base := by
  have hkeep : ∀ x t cs, Blk w x t cs → t = 5 ∨ t = 3 → w'.heap[x]? = w.heap[x]? := fun x t cs hb ht => ho.block x hb.lt (fun hm => by
    obtain ⟨_, _, cs', hb'⟩ := OA.P.cU h x hm
    refine hb.ne_ hb' ?_ rfl
    rcases ht with rfl | rfl <;> decide)
  refine ⟨row_of h.dt fun x hx => by obtain ⟨cs, hb⟩ := own_ty h.dt hx; exact hkeep x _ cs hb (.inl rfl), h.ok, by rw [List.append_nil]; exact hrow, fun c hc => ?_, h.q1, h.q2, ?_, ?_⟩
  · have hN := h.cl c (hs.subset hc)
    exact hN.of (fun x hx => by obtain ⟨_, _, cs, hb⟩ := hN.sU x hx; exact hkeep x _ cs hb (.inr rfl)) (fun x hx => by obtain ⟨_, _, cs, hb⟩ := hN.dU x hx; exact hkeep x _ cs hb (.inl rfl))
  · exact List.Pairwise.sublist ((hs.map CA.dR).cons_cons _) h.dD
  · exact List.Pairwise.sublist (hs.map CA.sR) h.dS
set_option maxHeartbeats 8000000 in
theorem snTrim {w : World} (o : OA) (s : Int) (ho : o.R w) (hoS : o.Sm) : Calls Try.prog 36 #[.agg o.cs, .int .i64 s] w (ChTo w (TrR o.v s)) := by
  have HO := Lib.hid (And.intro ho hoS)
  obtain ⟨w0, hw0⟩ : ∃ w0, w0 = ((w.alloc (.cells o.cs 36)).alloc (.cells #[.int .i64 s] 3)).alloc (.cells #[.bool false, .slice none 0 0, .int .i64 0, .slice none 0 0] 36) := ⟨_, rfl⟩
  have hbel : Below w.heap.size w w0 := by rw [hw0]; exact (((Below.refl _ w).alloc (Nat.le_refl _) _).alloc (by simp) _).alloc (by simp; omega) _
  have b0 : Blk w0 w.heap.size 36 o.cs := by rw [hw0]; exact ((Blk.new w _ _).alloc _).alloc _
  have b1 : Blk w0 (w.heap.size + 1) 3 #[.int .i64 s] := by
    have := (Blk.new (w.alloc (.cells o.cs 36)) 3 #[.int .i64 s]).alloc (.cells #[.bool false, .slice none 0 0, .int .i64 0, .slice none 0 0] 36)
    rw [hw0]
    simpa using this
  have b2 : Blk w0 (w.heap.size + 1 + 1) 36 #[.bool false, .slice none 0 0, .int .i64 0, .slice none 0 0] := by
    have := Blk.new ((w.alloc (.cells o.cs 36)).alloc (.cells #[.int .i64 s] 3)) 36 #[.bool false, .slice none 0 0, .int .i64 0, .slice none 0 0]
    rw [hw0]
    simpa using this
  have HW := Lib.hid (And.intro hbel (And.intro b0 (And.intro b1 b2)))
  have HWE := Lib.hid hw0
  clear ho hoS hbel b0 b1 b2 hw0
  have HGD := Lib.hid (sgood_any o (HO.out.1.since HW.out.1))
  have HZERO : Hid (∀ (k : Nat) (w5 w6 : World), TrR o.v s OV.zero k → Below w.heap.size w w5 → Only [w.heap.size + 1 + 1] w5 w6 → ChTo w (TrR o.v s) (.returned (.tuple #[.agg #[.bool false, .slice none 0 0, .int .i64 0, .slice none 0 0], errV k])) w6) := Lib.hid fun k w5 w6 hr hb5 ho6 =>
    ⟨OA.zero, k, rfl, hr, OA.zero_N _ _, OA.zero_Sm, hb5.trans (ho6.below (B := w.heap.size) (fun k hk => by simp at hk; omega) hb5.size)⟩
  unfold OA.cs at HWE
  have hcs : o.cs = #[.bool o.th, .slice o.D o.dt.length o.cd, .int .i64 o.sq, .slice o.C o.cl.length o.cc] := rfl
  rw [hcs] at HW HGD ⊢
  clear hcs
  go_enter Try.func36, Try.ntmps36
  go_upto_region 1 with (fail)
  rw [← HWE.out]
  have K0 := HW.out.2.1
  go_wp2_with (have _h := K0; refine wpList_loadq rfl 36 (.tmp 2) rfl w.heap.size [.bool o.th, .slice o.D o.dt.length o.cd, .int .i64 o.sq, .slice o.C o.cl.length o.cc] _ rfl K0 Try.underlying36 rfl (by kernel_rfl) ?_; clear _h K0)
  refine HGD.out.mono ?_
  rintro e w1 ⟨bg, rfl, hg, hb1⟩
  have HA1 : Hid (Below w.heap.size w w1 ∧ Blk w1 w.heap.size 36 #[.bool o.th, .slice o.D o.dt.length o.cd, .int .i64 o.sq, .slice o.C o.cl.length o.cc] ∧ Blk w1 (w.heap.size + 1) 3 #[.int .i64 s] ∧ Blk w1 (w.heap.size + 1 + 1) 36 #[.bool false, .slice none 0 0, .int .i64 0, .slice none 0 0]) := Lib.hid ⟨HW.out.1.trans (hb1.mono HW.out.1.size), HW.out.2.1.of (hb1.block _ HW.out.2.1.lt), HW.out.2.2.1.of (hb1.block _ HW.out.2.2.1.lt), HW.out.2.2.2.of (hb1.block _ HW.out.2.2.2.lt)⟩
  have HG := Lib.hid hg
  clear hb1 hg HGD HWE HW
  cases bg with
  | false =>
    have K2 := HA1.out.2.2.2
    go_wp2_with (have _h := K2; refine wpList_storeq rfl 36 (.tmp 4) (.tmp 12) rfl (w.heap.size + 1 + 1) #[.bool false, .slice none 0 0, .int .i64 0, .slice none 0 0] [.bool false, .slice none 0 0, .int .i64 0, .slice none 0 0] rfl rfl K2 rfl (by kernel_rfl) zero4_one ?_; clear _h K2; intro w9 K9 ho9 hs9)
    refine bodyPost_ret (res_cell_tmp rfl _ _ (w.heap.size + 1 + 1) [.bool false, .slice none 0 0, .int .i64 0, .slice none 0 0] _ _ rfl rfl K9 Try.underlying36 rfl (by kernel_rfl)) rfl ?_
    exact HZERO.out 2 w1 w9 (.bad (fun g => by have := HG.out.2 g; cases this)) HA1.out.1 ho9
  | true =>
  have HGO := Lib.hid (HG.out.1 rfl)
  clear HG
  have q1 : w1.cell? ⟨w.heap.size + 1, 0, none⟩ = some (.int .i64 s) := HA1.out.2.2.1.cell 0
  by_cases hs1 : s < 1
  · have d1 : decide (s < 1) = true := decide_eq_true hs1
    have K2 := HA1.out.2.2.2
    go_wp2_with (have _h := K2; refine wpList_storeq rfl 36 (.tmp 4) (.tmp 16) rfl (w.heap.size + 1 + 1) #[.bool false, .slice none 0 0, .int .i64 0, .slice none 0 0] [.bool false, .slice none 0 0, .int .i64 0, .slice none 0 0] rfl rfl K2 rfl (by kernel_rfl) zero4_one ?_; clear _h K2; intro w9 K9 ho9 hs9)
    refine bodyPost_ret (res_cell_tmp rfl _ _ (w.heap.size + 1 + 1) [.bool false, .slice none 0 0, .int .i64 0, .slice none 0 0] _ _ rfl rfl K9 Try.underlying36 rfl (by kernel_rfl)) rfl ?_
    exact HZERO.out 1 w1 w9 (.rng HGO.out hs1) HA1.out.1 ho9
  have d1 : decide (s < 1) = false := decide_eq_false hs1
  have HLK := Lib.hid (like_any o HA1.out.2.1 (HO.out.1.since HA1.out.1) HO.out.2)
  go_wp2_with fail
  refine HLK.out.mono ?_
  rintro e w4 ⟨q, hvq, hsq, hNq, rfl, hb4⟩
  obtain ⟨w5, hw5⟩ : ∃ w5, w5 = w4.alloc (.cells q.cs 36) := ⟨_, rfl⟩
  have hb5 : Below w4.heap.size w4 w5 := by rw [hw5]; exact below_alloc w4 _
  have hb15 : Below w1.heap.size w1 w5 := hb4.trans (hb5.mono hb4.size)
  have hTR : Trims w o q s w4.heap.size w1.heap.size q.cl w5 := ⟨HA1.out.1.trans (hb15.mono HA1.out.1.size), HA1.out.2.2.1.of (hb15.block _ HA1.out.2.2.1.lt), HA1.out.2.2.2.of (hb15.block _ HA1.out.2.2.2.lt), by rw [hw5]; exact Blk.new w4 _ _, OA.N.below hNq hb5⟩
  have HTR := Lib.hid hTR
  have HQ := Lib.hid (And.intro hvq hsq)
  have HW5 := Lib.hid hw5
  have HZ : Hid (w.heap.size + 3 ≤ w1.heap.size ∧ w1.heap.size ≤ w4.heap.size) := Lib.hid ⟨by have := HA1.out.2.2.2.lt; omega, hb4.size⟩
  have hqcs : q.cs = #[.bool q.th, .slice q.D q.dt.length q.cd, .int .i64 q.sq, .slice q.C q.cl.length q.cc] := rfl
  unfold OA.cs at HW5
  rw [hqcs]
  obtain ⟨g, hgg⟩ : ∃ g, g = w4.heap.size := ⟨_, rfl⟩
  have HGG := Lib.hid hgg
  clear hvq hsq hNq hb4 hw5 hb5 hb15 hTR hqcs HLK q1 d1
  rw [← hgg] at HTR
  go_upto_region 6 with (fail)
  rw [← HW5.out, ← hgg]
  clear hgg HW5
  have c3 : w5.cell? ⟨g, 3, none⟩ = some (.slice q.C q.cl.length q.cc) := HTR.out.g0.cell 3
  have hcl1 := HQ.out.2.cn
  go_wp2
  go_loopw [22] (fun i wr => ∃ k : Nat, k ≤ q.cl.length ∧ i = .int .i64 k ∧ Trims w o q s g w1.heap.size ((q.cl.take k).map (trimA s) ++ q.cl.drop k) wr) (fun i _ => q.cl.length - (intOf i).toNat)
  case atStart => exact ⟨0, by omega, rfl, by simpa using HTR.out⟩
  case round =>
    obtain ⟨k, hk, rfl, hT⟩ := hrel
    obtain ⟨wo, hwo⟩ : ∃ wo, wo = wr := ⟨_, rfl⟩
    subst hwo
    have HT := Lib.hid hT
    clear hT c3
    have c3 : wo.cell? ⟨g, 3, none⟩ = some (.slice q.C q.cl.length q.cc) := HT.out.g0.cell 3
    by_cases hlt : k < q.cl.length
    · have hwk : IntKind.i64.wrap ((k : Int) + 1) = (k : Int) + 1 := by rw [IntKind.wrap_i64]; omega
      obtain ⟨c, hck⟩ : ∃ c, q.cl[k]? = some c := ⟨_, List.getElem?_eq_getElem hlt⟩
      have hlk : ((q.cl.take k).map (trimA s)).length = k := by simp; omega
      have hck2 : ((q.cl.take k).map (trimA s) ++ q.cl.drop k)[k]? = some c := by
        rw [List.getElem?_append_right (by omega), hlk, Nat.sub_self, List.getElem?_drop, Nat.add_zero]
        exact hck
      have hlen : ((q.cl.take k).map (trimA s) ++ q.cl.drop k).length = q.cl.length := by simp; omega
      have hrow := HT.out.own.row
      rw [List.append_nil] at hrow
      obtain ⟨r, hr⟩ : ∃ r, q.C = some ⟨r, 0, none⟩ := by
        obtain ⟨-, -, -, h | ⟨b, h, -⟩⟩ := own_shape hrow
        · exfalso
          rcases hrow.2 with ⟨_, h0⟩ | ⟨g2, cap2, cur2, e2, _⟩
          · rw [hlen] at h0; omega
          · injection e2 with e2
            simp only at h
            rw [h] at e2
            cases e2
        · exact ⟨b, h⟩
      have hRN := OA.N.R HT.out.own
      obtain ⟨ad, had, -, hcc⟩ := hRN.get hck2
      simp only at had
      rw [hr] at had
      injection had with had
      subst had
      have cS : wo.cell? ⟨r, k * 2, none⟩ = some (.slice c.S c.sn.length c.cs) := by
        have := hcc 0 _ rfl
        rw [add_zero_off, add_zero_off'] at this
        exact this
      have hcN := HT.out.own.cl c (List.mem_of_getElem? hck2)
      have hcs2 := HQ.out.2.cl c (List.mem_of_getElem? hck)
      have HDL := Lib.hid (delint_any hcN.sn HT.out.b1 (fun hm => by
        have h1 := (hcN.sU _ hm).1
        have h2 := HZ.out.1
        omega) (by omega))
      unfold trimV at HDL
      have HCN := Lib.hid hcN
      have HCK := Lib.hid (And.intro hck hck2)
      have HR := Lib.hid hr
      have hcap := hRN.c2
      simp only at hcap
      rw [hlen] at hcap
      have hrl : r < wo.heap.size := by
        obtain ⟨_, h2, _⟩ := OA.P.cU HT.out.own r (by rw [show ({q with cl := (q.cl.take k).map (trimA s) ++ q.cl.drop k} : OA).C = q.C from rfl, hr]; simp [rowOf, Value.ownBlock])
        exact h2
      rw [hr] at c3
      clear hr
      clear hck hck2 hrow hRN hcc hcN hlk hlen hcs2
      go_wp2_with fail
      refine HDL.out.mono ?_
      rintro e w6 ⟨rfl, hown6, ho6⟩
      have hst := OA.N.setSn HT.out.own HCK.out.2 ho6 hown6 (fun x hx => HCN.out.i1 x (List.mem_filter.1 hx).1) HR.out
      obtain ⟨-, -, crs, hcr⟩ := OA.P.cU HT.out.own r (by rw [show ({q with cl := (q.cl.take k).map (trimA s) ++ q.cl.drop k} : OA).C = q.C from rfl, HR.out]; simp [rowOf, Value.ownBlock])
      have hcr6 : Blk w6 r 79 crs := hcr.of (ho6.block r hrl (fun hm => by obtain ⟨_, _, cs, hb⟩ := HCN.out.sU r hm; exact hcr.ne_ hb (by decide) rfl))
      have cS6 : w6.cell? ⟨r, k * 2, none⟩ = some (.slice c.S c.sn.length c.cs) := by
        rw [hcr6.cell, ← hcr.cell]
        exact cS
      have fS6 : w6.frozen? ⟨r, k * 2, none⟩ = false := hcr6.frozen _
      have HNEW : Hid (Trims w o q s g w1.heap.size ((q.cl.take (k + 1)).map (trimA s) ++ q.cl.drop (k + 1)) (w6.setCell ⟨r, k * 2, none⟩ (.slice c.S (noI s c.sn).length c.cs))) := Lib.hid (by
        have hF : ∀ x ∈ r :: rowOf (.slice c.S 0 0), w1.heap.size ≤ x ∧ ∃ t cs, Blk wo x t cs ∧ t ≠ 36 := fun x hx => by
          rcases List.mem_cons.1 hx with e | hx
          · subst e
            exact ⟨(OA.P.cU HT.out.own x (by rw [show ({q with cl := (q.cl.take k).map (trimA s) ++ q.cl.drop k} : OA).C = q.C from rfl, HR.out]; simp [rowOf, Value.ownBlock])).1, _, _, hcr, by decide⟩
          · obtain ⟨h1, _, cs, hb⟩ := HCN.out.sU x hx
            exact ⟨h1, _, cs, hb, by decide⟩
        have hz := HZ.out.1
        refine ⟨HT.out.bel.trans (hst.2.below (B := w.heap.size) (fun x hx => by have := (hF x hx).1; omega) HT.out.bel.size), HT.out.b1.only hst.2 (fun hm => by have := (hF _ hm).1; omega), HT.out.b2.only hst.2 (fun hm => by have := (hF _ hm).1; omega), HT.out.g0.only hst.2 (fun hm => ?_), ?_⟩
        · obtain ⟨_, t, cs, hb, hne⟩ := hF _ hm
          exact hb.ne_ HT.out.g0 hne rfl
        · have h1 := hst.1
          have h2 : ({c with sn := noI s c.sn} : CA) = trimA s c := rfl
          rw [h2] at h1
          simp only at h1
          rw [trim_step s q.cl k c HCK.out.1] at h1
          exact h1)
      clear hst hcr hcr6 hown6 ho6 HDL cS hrl hcap
      go_wp2
      go_roundw
      case rel => exact ⟨k + 1, by omega, by go_num, HNEW.out⟩
      case measure => simp [intOf]; omega
    · obtain rfl : k = q.cl.length := by omega
      have hd0 : (q.cl.take q.cl.length).map (trimA s) ++ q.cl.drop q.cl.length = q.cl.map (trimA s) := by rw [List.take_of_length_le (Nat.le_refl _), List.drop_length, List.append_nil]
      have hTT := HT.out
      rw [hd0] at hTT
      have hrow := hTT.own.row
      rw [List.append_nil] at hrow
      have hml : (q.cl.map (trimA s)).length = q.cl.length := by simp
      have HDC := Lib.hid (delcl_any hrow (by simp; omega) (fun x hx => by
        obtain ⟨c, hc, rfl⟩ := List.mem_map.1 hx
        have h1 := (HQ.out.2.cl c hc).1
        have h2 : (noI s c.sn).length ≤ c.sn.length := List.length_filter_le _ _
        show (noI s c.sn).length ≤ 1000000
        omega))
      simp only at HDC
      rw [hml] at HDC
      unfold emptV at HDC
      have HTT := Lib.hid hTT
      clear hd0 hTT hrow hml HT HTR
      go_wp2_with fail
      refine HDC.out.mono ?_
      rintro e w7 ⟨rfl, hrow7, ho7⟩
      have hFC : ∀ x ∈ rowOf (.slice q.C 0 0), w1.heap.size ≤ x ∧ ∃ cs, Blk wo x 79 cs := fun x hx => by
        obtain ⟨h1, _, h3⟩ := OA.P.cU HTT.out.own x hx
        exact ⟨h1, h3⟩
      have hz := HZ.out.1
      have hN7 := OA.N.keepsub (cl' := fullC (q.cl.map (trimA s))) HTT.out.own (List.filter_sublist) ho7 hrow7
      have K7 : Blk w7 g 36 #[.bool q.th, .slice q.D q.dt.length q.cd, .int .i64 q.sq, .slice q.C q.cl.length q.cc] := HTT.out.g0.only ho7 (fun hm => by obtain ⟨_, cs, hb⟩ := hFC _ hm; exact hb.ne_ HTT.out.g0 (by decide) rfl)
      have b27 : Blk w7 (w.heap.size + 1 + 1) 36 #[.bool false, .slice none 0 0, .int .i64 0, .slice none 0 0] := HTT.out.b2.only ho7 (fun hm => by have := (hFC _ hm).1; omega)
      have hbel7 : Below w.heap.size w w7 := HTT.out.bel.trans (ho7.below (B := w.heap.size) (fun x hx => by have := (hFC x hx).1; omega) HTT.out.bel.size)
      have HK7 := Lib.hid K7
      have HN7 := Lib.hid (And.intro hN7 (And.intro b27 hbel7))
      have hg3 : g ≠ w.heap.size + 1 + 1 := by have := HZ.out.2; have := HGG.out; omega
      clear hN7 hrow7 ho7 b27 hbel7 hFC HDC
      obtain ⟨cl2, hcl2⟩ : ∃ cl2, cl2 = fullC (q.cl.map (trimA s)) := ⟨_, rfl⟩
      have HCL := Lib.hid hcl2
      rw [← hcl2]
      clear hcl2
      go_upto_region 13 with (have _h := K7; refine wpList_setq rfl 34 (.tmp 42) (.tmp 41) rfl g 3 36 _ (.slice q.C cl2.length q.cc) rfl rfl K7 (by simp) (by kernel_rfl) rfl ?_; clear _h K7; intro w8 K8 ho8 hs8)
      have K8' : Blk w8 g 36 [Value.bool q.th, .slice q.D q.dt.length q.cd, .int .i64 q.sq, .slice q.C cl2.length q.cc].toArray := by simpa using K8
      have b28 : Blk w8 (w.heap.size + 1 + 1) 36 #[.bool false, .slice none 0 0, .int .i64 0, .slice none 0 0] := HN7.out.2.1.only ho8 (fun hm => by simp at hm; exact hg3 hm.symm)
      have HO8 := Lib.hid (And.intro ho8 b28)
      clear K8 ho8 hs8 b28
      go_wp2_with (first
        | (have _h := K8'; refine wpList_loadq rfl 36 (.tmp 6) rfl g [.bool q.th, .slice q.D q.dt.length q.cd, .int .i64 q.sq, .slice q.C cl2.length q.cc] _ rfl K8' Try.underlying36 rfl (by kernel_rfl) ?_; clear _h)
        | (refine wpList_storeq rfl 36 (.tmp 4) (.tmp 43) rfl (w.heap.size + 1 + 1) #[.bool false, .slice none 0 0, .int .i64 0, .slice none 0 0] [.bool q.th, .slice q.D q.dt.length q.cd, .int .i64 q.sq, .slice q.C cl2.length q.cc] rfl rfl HO8.out.2 rfl (by kernel_rfl) (fun v hv => by simp at hv; rcases hv with rfl | rfl | rfl | rfl <;> rfl) ?_; intro w9 K9 ho9 hs9))
      refine bodyPost_ret (res_cell_tmp rfl _ _ (w.heap.size + 1 + 1) [.bool q.th, .slice q.D q.dt.length q.cd, .int .i64 q.sq, .slice q.C cl2.length q.cc] _ _ rfl rfl K9 Try.underlying36 rfl (by kernel_rfl)) rfl ?_
      refine ⟨⟨q.th, q.dt, q.D, q.cd, q.sq, q.C, q.cc, cl2⟩, 0, rfl, ?_, ?_, ?_, ?_⟩
      · have e : OA.v ⟨q.th, q.dt, q.D, q.cd, q.sq, q.C, q.cc, cl2⟩ = trimO o.v s := by
          have e1 : cl2.map CA.v = trimCl q.vs s := by rw [HCL.out]; exact trim_vs s q.cl
          rw [← HQ.out.1]
          show OV.mk q.th q.dt q.sq (cl2.map CA.v) = OV.mk q.th q.dt q.sq (trimCl q.vs s)
          rw [e1]
        rw [e]
        exact .ok HGO.out (by omega)
      · have hN := HN7.out.1
        rw [← HCL.out] at hN
        have hN8 : OA.N ⟨q.th, q.dt, q.D, q.cd, q.sq, q.C, q.cc, cl2⟩ w8 w1.heap.size := OA.P.typed hN fun k t cs hb ht => HO8.out.1.block k hb.lt (fun hm => by
          simp at hm
          subst hm
          refine hb.ne_ HK7.out ?_ rfl
          rcases ht with rfl | rfl | rfl <;> decide)
        have hz1 : w.heap.size ≤ w1.heap.size := by omega
        exact OA.P.weaken (OA.P.typed hN8 fun k t cs hb ht => ho9.block k hb.lt (fun hm => by
          simp at hm
          subst hm
          refine hb.ne_ HO8.out.2 ?_ rfl
          rcases ht with rfl | rfl | rfl <;> decide)) hz1
      · have e : cl2.length ≤ q.cl.length := by rw [HCL.out]; refine Nat.le_trans (List.length_filter_le _ _) (by simp)
        refine ⟨HQ.out.2.dt, by show cl2.length ≤ 1000; omega, fun c hc => ?_⟩
        have hc' : c ∈ fullC (q.cl.map (trimA s)) := by rw [← HCL.out]; exact hc
        obtain ⟨c0, hc0, rfl⟩ := List.mem_map.1 (List.mem_filter.1 hc').1
        have h1 := HQ.out.2.cl c0 hc0
        have h2 : (noI s c0.sn).length ≤ c0.sn.length := List.length_filter_le _ _
        exact ⟨by show (noI s c0.sn).length ≤ 10000; omega, h1.2⟩
      · have h8 := HO8.out.1.belowB (B := w.heap.size) (fun k hk => by simp at hk; have := HZ.out.2; have := HGG.out; omega) HN7.out.2.2.size
        exact (HN7.out.2.2.trans h8).trans (ho9.below (B := w.heap.size) (fun k hk => by simp at hk; omega) (by have := h8.size; have := HN7.out.2.2.size; omega))
end Go.Proofs.Ytcbpdalfindmgaa

/-
  The chapter's example. No condition.
-/
namespace Go.Proofs.Ytcbpdalfindmgaa
open Go.RowKit Go.BigFrame
set_option linter.unusedSimpArgs false
set_option linter.unusedVariables false
set_option maxRecDepth 100000
def ex1 : OV := ⟨true, [111, 108, 100], 0, []⟩
def ex2 : OV := ⟨true, [111, 78, 69], 1, [⟨[1], [111, 108, 100]⟩]⟩
theorem good_zero : Good OV.zero := ⟨by decide, by decide, fun _ => rfl, by decide, fun c hc => (by cases hc), List.Pairwise.nil, fun s hs => (by cases hs)⟩
theorem good_ex1 : Good ex1 := ⟨by decide, by decide, fun h => (by cases h), by decide, fun c hc => (by cases hc), List.Pairwise.nil, fun s hs => (by cases hs)⟩
theorem good_ex2 : Good ex2 := by
  rw [good_iff]
  refine ⟨⟨by decide, by decide, fun h => (by cases h), by decide⟩, fun c hc => ?_, rfl, by decide⟩
  simp [ex2] at hc
  subst hc
  exact ⟨by decide, by decide⟩
theorem cx_zero : CxG ⟨0, []⟩ := ⟨by decide, by decide, List.Pairwise.nil, fun s hs => (by cases hs)⟩
theorem cx_one : CxG ⟨1, [1]⟩ := ⟨by decide, by decide, List.pairwise_singleton _ _, fun s hs => (by simp at hs; subst hs; exact ⟨by decide, by decide⟩)⟩
theorem ch_ex1 : ChR OV.zero ⟨0, []⟩ (writeK 0 3) (some (writeD [] (0 : Int).toNat [111, 108, 100])) ex1 0 := by
  have h := ChR.ok (hd := some (writeD [] (0 : Int).toNat [111, 108, 100])) good_zero cx_zero (show OV.zero.sq ≤ (0 : Int) by decide) (show writeK 0 3 = 0 by decide) (by decide)
  exact h
theorem ch_ex2 : ChR ex1 ⟨1, [1]⟩ (writeK 1 2) (some (writeD ex1.dt (1 : Int).toNat [78, 69])) ex2 0 := by
  have h := ChR.ok (hd := some (writeD ex1.dt (1 : Int).toNat [78, 69])) good_ex1 cx_one (show ex1.sq ≤ (1 : Int) by decide) (show writeK 1 2 = 0 by decide) (by decide)
  exact h
theorem at_ex2 : atO ex2 1 = some [111, 108, 100] ∧ atO ex2 0 = some [111, 78, 69] := by decide
theorem strs_lit {bs : List Nat} {s : ByteArray} (h : s = strOf bs) : (strOf bs).toList = s.toList := by rw [h]
set_option maxHeartbeats 8000000 in
theorem alive_any (w : World) : Calls Try.prog 9 #[] w fun e w' => e = .returned (.bool true) ∧ Below w.heap.size w w' := by
  obtain ⟨w0, hw0⟩ : ∃ w0, w0 = w.alloc (.cells #[.int .u8 111, .int .u8 108, .int .u8 100] 5 (3, 4)) := ⟨_, rfl⟩
  have hb0 : Below w.heap.size w w0 := by rw [hw0]; exact below_alloc w _
  have hd0 : Bytes w0 w0.heap.size (some ⟨w.heap.size, 0, none⟩) 3 [111, 108, 100] := by
    rw [hw0]
    exact (Bytes.new w [111, 108, 100] 5 (3, 4) (by decide)).more (by simp)
  have H0 := Lib.hid (And.intro hb0 (And.intro hd0 hw0))
  have hW1 := snWrite (w := w0) OA.zero ⟨0, [], none, 0⟩ 0 (some ⟨w.heap.size, 0, none⟩) 3 3 [111, 108, 100] (by decide) (by decide) (OA.zero_R _) OA.zero_Sm ⟨Reads.none_, fun s hs => (by cases hs), by decide, by decide, by decide, by decide⟩ hd0 (by decide)
  have HW1 := Lib.hid hW1
  clear hb0 hd0 hw0 hW1
  have kc := fun (w : World) (C : Array Value) (n c : Nat) => Lib.run_convert_bytes_const (P := Try.prog) w 22 5 C n c Try.underlying22 Try.underlying5
  go_enter Try.func9, Try.ntmps9
  go_wp2_with fail
  have hw0 := H0.out.2.2
  rw [← hw0]
  clear hw0
  refine HW1.out.mono ?_
  rintro e w1 ⟨q1, k1, rfl, hr1, hN1, hS1, hb1⟩
  obtain ⟨hv1, rfl⟩ := hr1.one ch_ex1
  have HQ1 := Lib.hid (And.intro hv1 (And.intro hN1.R (And.intro hS1 hb1)))
  clear hr1 hN1 hS1 hb1 hv1 HW1
  have hq1 : q1.cs = #[.bool q1.th, .slice q1.D q1.dt.length q1.cd, .int .i64 q1.sq, .slice q1.C q1.cl.length q1.cc] := rfl
  unfold errV
  rw [hq1]
  clear hq1
  go_upto_region 2 with (fail)
  obtain ⟨w2, hw2⟩ : ∃ w2, w2 = w1.alloc (.cells #[.bool q1.th, .slice q1.D q1.dt.length q1.cd, .int .i64 q1.sq, .slice q1.C q1.cl.length q1.cc] 36) := ⟨_, rfl⟩
  rw [← hw2]
  have K2 : Blk w2 w1.heap.size 36 [Value.bool q1.th, .slice q1.D q1.dt.length q1.cd, .int .i64 q1.sq, .slice q1.C q1.cl.length q1.cc].toArray := by rw [hw2]; exact Blk.new w1 _ _
  have hb2 : Below w1.heap.size w1 w2 := by rw [hw2]; exact below_alloc w1 _
  clear hw2
  have HB2 := Lib.hid (And.intro K2 (And.intro hb2 ((H0.out.1.trans (HQ1.out.2.2.2.mono H0.out.1.size)).trans (hb2.mono (by have := H0.out.1.size; have := HQ1.out.2.2.2.size; omega)))))
  have HR2 := Lib.hid (HQ1.out.2.1.since hb2)
  clear hb2 kc
  obtain ⟨g1, hg1⟩ : ∃ g1, g1 = w1.heap.size := ⟨_, rfl⟩
  rw [← hg1] at K2 HB2 ⊢
  clear hg1
  have kc := Lib.run_convert_bytes_const (P := Try.prog) (w2.alloc (.cells #[.int .i64 1] 3)) 22 5 #[.int .u8 78, .int .u8 69] 2 2 Try.underlying22 Try.underlying5
  rw [World.size_alloc] at kc
  obtain ⟨w3, hw3⟩ : ∃ w3, w3 = (w2.alloc (.cells #[.int .i64 1] 3)).alloc (.cells #[.int .u8 78, .int .u8 69] 5 (2, 3)) := ⟨_, rfl⟩
  have hb3 : Below w2.heap.size w2 w3 := by rw [hw3]; exact (below_alloc w2 _).alloc (by simp) _
  have hd3 : Bytes w3 w3.heap.size (some ⟨w2.heap.size + 1, 0, none⟩) 2 [78, 69] := by
    rw [hw3]
    have := (Bytes.new (w2.alloc (.cells #[.int .i64 1] 3)) [78, 69] 5 (2, 3) (by decide)).more (B' := ((w2.alloc (.cells #[.int .i64 1] 3)).alloc (.cells #[.int .u8 78, .int .u8 69] 5 (2, 3))).heap.size) (by simp)
    simp only [World.size_alloc] at this ⊢
    exact this
  have hi3 : Ints w3 w3.heap.size (some ⟨w2.heap.size, 0, none⟩) 1 [1] := by
    rw [hw3]
    have := Reads.new w2 (i64s [1]) 3 (0, 0)
    exact (Reads.alloc (B := w2.heap.size + 1) this (by simp) _).more (by simp)
  have hW3 := snWrite (w := w3) q1 ⟨1, [1], some ⟨w2.heap.size, 0, none⟩, 1⟩ 1 (some ⟨w2.heap.size + 1, 0, none⟩) 2 2 [78, 69] (by decide) (by decide) (HR2.out.since hb3) HQ1.out.2.2.1 ⟨hi3, fun s hs => (by simp at hs; omega), (by show (-9223372036854775808 : Int) ≤ 1; decide), (by show (1 : Int) ≤ 9223372036854775807; decide), (by show (1 : Nat) ≤ 9223372036854775807; decide), Nat.le_refl _⟩ hd3 (by decide)
  have hq1 : q1.cs = #[.bool q1.th, .slice q1.D q1.dt.length q1.cd, .int .i64 q1.sq, .slice q1.C q1.cl.length q1.cc] := rfl
  rw [hq1] at hW3
  have HW3 := Lib.hid (And.intro hW3 (And.intro hw3 hb3))
  clear hq1 hb3 hd3 hi3 hW3 hw3
  go_wp2_with (have _h := K2; refine wpList_loadq rfl 36 (.tmp 1) rfl g1 [.bool q1.th, .slice q1.D q1.dt.length q1.cd, .int .i64 q1.sq, .slice q1.C q1.cl.length q1.cc] _ rfl K2 Try.underlying36 rfl (by kernel_rfl) ?_; clear _h K2)
  rw [← HW3.out.2.1]
  refine HW3.out.1.mono ?_
  rintro e w4 ⟨q2, k2, rfl, hr2, hN2, hS2, hb4⟩
  have hv1 := HQ1.out.1
  have hdt1 : q1.dt = ex1.dt := congrArg OV.dt hv1
  rw [hv1, hdt1] at hr2
  obtain ⟨hv2, rfl⟩ := hr2.one ch_ex2
  have HQ2 := Lib.hid (And.intro hv2 (And.intro hN2.R (And.intro hS2 hb4)))
  clear hr2 hN2 hS2 hb4 hv2 hv1 hdt1 kc
  have hq2 : q2.cs = #[.bool q2.th, .slice q2.D q2.dt.length q2.cd, .int .i64 q2.sq, .slice q2.C q2.cl.length q2.cc] := rfl
  unfold errV
  rw [hq2]
  clear hq2
  go_upto_region 5 with (fail)
  obtain ⟨w5, hw5⟩ : ∃ w5, w5 = w4.alloc (.cells #[.bool q2.th, .slice q2.D q2.dt.length q2.cd, .int .i64 q2.sq, .slice q2.C q2.cl.length q2.cc] 36) := ⟨_, rfl⟩
  rw [← hw5]
  have K5 : Blk w5 w4.heap.size 36 [Value.bool q2.th, .slice q2.D q2.dt.length q2.cd, .int .i64 q2.sq, .slice q2.C q2.cl.length q2.cc].toArray := by rw [hw5]; exact Blk.new w4 _ _
  have hb5 : Below w4.heap.size w4 w5 := by rw [hw5]; exact below_alloc w4 _
  clear hw5
  have hz3 := HW3.out.2.2.size
  have hz2 := HB2.out.2.2.size
  have HB5 : Hid (Below w.heap.size w w5) := Lib.hid (((HB2.out.2.2.trans (HW3.out.2.2.mono hz2)).trans (HQ2.out.2.2.2.mono (by omega))).trans (hb5.mono (by have := HQ2.out.2.2.2.size; omega)))
  have hR5 := HQ2.out.2.1.since hb5
  obtain ⟨g2, hg2⟩ : ∃ g2, g2 = w4.heap.size := ⟨_, rfl⟩
  rw [← hg2] at K5 ⊢
  have HA1 := Lib.hid (sat_any q2 1 hR5 HQ2.out.2.2.1)
  have HK5 := Lib.hid (And.intro K5 hR5)
  have hq2 : q2.cs = #[.bool q2.th, .slice q2.D q2.dt.length q2.cd, .int .i64 q2.sq, .slice q2.C q2.cl.length q2.cc] := rfl
  rw [hq2] at HA1
  clear hg2 hb5 hR5 hz3 hz2
  go_wp2_with (have _h := K5; refine wpList_loadq rfl 36 (.tmp 3) rfl g2 [.bool q2.th, .slice q2.D q2.dt.length q2.cd, .int .i64 q2.sq, .slice q2.C q2.cl.length q2.cc] _ rfl K5 Try.underlying36 rfl (by kernel_rfl) ?_; clear _h K5)
  refine HA1.out.mono ?_
  rintro e w6 ⟨hb6, ⟨d, v, -, -, hat, rfl, hv6, hd6⟩ | ⟨hno, _⟩⟩
  rotate_left
  · rw [HQ2.out.1] at hno
    have := hno good_ex2 (by decide)
    rw [at_ex2.1] at this
    cases this
  rw [HQ2.out.1, at_ex2.1] at hat
  injection hat with hat
  subst hat
  obtain ⟨D6, c6, rfl, -⟩ := hv6.form
  have K6 := HK5.out.1.of (hb6.block _ HK5.out.1.lt)
  have hR6 := HK5.out.2.since hb6
  have HA0 := Lib.hid (sat_any q2 0 hR6 HQ2.out.2.2.1)
  rw [hq2] at HA0
  have HB6 := Lib.hid (And.intro hv6 (And.intro hb6 K6))
  clear hb6 hv6 hd6 hR6 HA1 hq2
  go_wp2_with (have _h := K6; refine wpList_loadq rfl 36 (.tmp 3) rfl g2 [.bool q2.th, .slice q2.D q2.dt.length q2.cd, .int .i64 q2.sq, .slice q2.C q2.cl.length q2.cc] _ rfl K6 Try.underlying36 rfl (by kernel_rfl) ?_; clear _h K6)
  refine HA0.out.mono ?_
  rintro e w7 ⟨hb7, ⟨d, v, -, -, hat, rfl, hv7, hd7⟩ | ⟨hno, _⟩⟩
  rotate_left
  · rw [HQ2.out.1] at hno
    have := hno good_ex2 (by decide)
    rw [at_ex2.2] at this
    cases this
  rw [HQ2.out.1, at_ex2.2] at hat
  injection hat with hat
  subst hat
  obtain ⟨D7, c7, rfl, -⟩ := hv7.form
  have K7 := HB6.out.2.2.of (hb7.block _ HB6.out.2.2.lt)
  have k1 := str_of (P := Try.prog) ((HB6.out.1.below hb7).bytes (by decide)) c6 22 9 5 Try.underlying22 Try.underlying5 Try.underlying9
  have k2 := str_of (P := Try.prog) (hv7.bytes (by decide)) c7 22 9 5 Try.underlying22 Try.underlying5 Try.underlying9
  have c3 : w7.cell? ⟨g2, 3, none⟩ = some (.slice q2.C q2.cl.length q2.cc) := K7.cell 3
  have hcl : q2.cl.length = 1 := by
    have h1 : q2.vs = ex2.cl := congrArg OV.cl HQ2.out.1
    rw [← OA.vs_len, h1]
    rfl
  rw [hcl] at c3
  have s1 : (strOf [111, 108, 100]) = ⟨#[111, 108, 100]⟩ := by decide
  have s2 : (strOf [111, 78, 69]) = ⟨#[111, 78, 69]⟩ := by decide
  simp only [List.length_cons, List.length_nil, Nat.zero_add, Nat.reduceAdd] at k1 k2 ⊢
  rw [s1] at k1
  rw [s2] at k2
  have HB7 : Hid (Below w.heap.size w w7) := Lib.hid ((HB5.out.trans (HB6.out.2.1.mono HB5.out.size)).trans (hb7.mono (by have := HB5.out.size; have := HB6.out.2.1.size; omega)))
  clear hb7 hv7 hd7 K7 hcl s1 s2 HA0
  go_wp2
  go_ret
  exact ⟨rfl, HB7.out⟩
end Go.Proofs.Ytcbpdalfindmgaa

/-
  What the laws' own functions return: what is too large, a change by the program. Conditions: what came in reads as it is said to.
-/
namespace Go.Proofs.Ytcbpdalfindmgaa
open Go.RowKit Go.BigFrame
set_option linter.unusedSimpArgs false
set_option linter.unusedVariables false
set_option maxRecDepth 100000
/-- a change, and where it lies -/
structure PA where
  kd : Int
  at_ : Int
  n : Int
  dt : List Nat
  D : Option Addr
  cd : Nat
  cx : XA
def PA.cs (x : PA) : Array Value := #[.int .i64 x.kd, .int .i64 x.at_, .int .i64 x.n, .slice x.D x.dt.length x.cd, .int .i64 x.cx.sq, .slice x.cx.S x.cx.sn.length x.cx.cs]
structure PA.R (x : PA) (w : World) : Prop where
  dt : Bytes w w.heap.size x.D x.dt.length x.dt
  cx : x.cx.R w
  k1 : -9223372036854775808 ≤ x.kd
  k2 : x.kd ≤ 9223372036854775807
  a1 : -9223372036854775808 ≤ x.at_
  a2 : x.at_ ≤ 9223372036854775807
  n1 : -9223372036854775808 ≤ x.n
  n2 : x.n ≤ 9223372036854775807
  dl : x.dt.length ≤ 9223372036854775807
theorem PA.R.since {x : PA} {w w' : World} (h : x.R w) (hb : Below w.heap.size w w') : x.R w' := ⟨(h.dt.since hb).more hb.size, h.cx.since hb, h.k1, h.k2, h.a1, h.a2, h.n1, h.n2, h.dl⟩
/-- as large as is looked at -/
structure OA.Lm (o : OA) : Prop where
  dt : o.dt.length ≤ 2000
  cn : o.cl.length ≤ 30
  cl : ∀ c ∈ o.cl, c.dt.length ≤ 2000 ∧ c.sn.length ≤ 50
theorem OA.Lm.Sm {o : OA} (h : o.Lm) : o.Sm := ⟨by have := h.dt; omega, by have := h.cn; omega, fun c hc => by have := h.cl c hc; omega⟩
set_option maxHeartbeats 4000000 in
theorem large_any {w : World} (o : OA) (h : o.R w) : Calls Try.prog 10 #[.agg o.cs] w fun e w' => (e = .returned (.bool true) ∨ (e = .returned (.bool false) ∧ o.Lm)) ∧ Below w.heap.size w w' := by
  have H := Lib.hid h
  have hd1 := h.d1
  have hc1 := h.c1
  have hd2 := h.d2
  have hc2 := h.c2
  have HB0 := Lib.hid (below_alloc w (.cells #[.bool o.th, .slice o.D o.dt.length o.cd, .int .i64 o.sq, .slice o.C o.cl.length o.cc] 25))
  clear h
  unfold OA.cs
  by_cases n1 : (2000 : Int) < (o.dt.length : Int)
  · have e1 : decide ((2000 : Int) < (o.dt.length : Int)) = true := decide_eq_true n1
    go_enter Try.func10, Try.ntmps10
    go_wp2
    go_ret
    exact ⟨.inl rfl, HB0.out⟩
  have e1 : decide ((2000 : Int) < (o.dt.length : Int)) = false := decide_eq_false n1
  by_cases n2 : (30 : Int) < (o.cl.length : Int)
  · have e2 : decide ((30 : Int) < (o.cl.length : Int)) = true := decide_eq_true n2
    go_enter Try.func10, Try.ntmps10
    go_wp2
    go_ret
    exact ⟨.inl rfl, HB0.out⟩
  have e2 : decide ((30 : Int) < (o.cl.length : Int)) = false := decide_eq_false n2
  go_enter Try.func10, Try.ntmps10
  go_wp2
  go_loopw [18] (fun i wr => ∃ k : Nat, k ≤ o.cl.length ∧ i = .int .i64 k ∧ (∀ c ∈ o.cl.take k, c.dt.length ≤ 2000 ∧ c.sn.length ≤ 50) ∧ Below w.heap.size w wr) (fun i _ => o.cl.length - (intOf i).toNat)
  case atStart => exact ⟨0, by omega, rfl, by simp, HB0.out⟩
  case round =>
    obtain ⟨k, hk, rfl, hx, hb⟩ := hrel
    obtain ⟨wo, hwo⟩ : ∃ wo, wo = wr := ⟨_, rfl⟩
    subst hwo
    have HX := Lib.hid (And.intro hx hb)
    clear hx
    by_cases hlt : k < o.cl.length
    · have hwk : IntKind.i64.wrap ((k : Int) + 1) = (k : Int) + 1 := by rw [IntKind.wrap_i64]; omega
      obtain ⟨c, hck⟩ : ∃ c, o.cl[k]? = some c := ⟨_, List.getElem?_eq_getElem hlt⟩
      have hR := H.out.since hb
      obtain ⟨ad, had, hl, hc⟩ := hR.get hck
      have hok := hR.cl c (List.mem_of_getElem? hck)
      have hs1 := hok.s1
      have hs2 := hok.d1
      have hs3 := hok.s2
      have hs4 := hok.d2
      have HBA : Hid (Below w.heap.size w (wo.alloc (.cells #[.slice c.S c.sn.length c.cs, .slice c.D c.dt.length c.cd] 78))) := Lib.hid (hb.alloc hb.size _)
      have HCK := Lib.hid hck
      generalize o.C = oC at *
      subst had
      clear hR hok hck hb
      by_cases m1 : (2000 : Int) < (c.dt.length : Int)
      · have f1 : decide ((2000 : Int) < (c.dt.length : Int)) = true := decide_eq_true m1
        go_wp2_with (have _h := hc; refine wpList_load_rcl rfl (.tmp 20) rfl _ rfl c hc ?_; clear _h hc)
        go_ret
        exact ⟨.inl rfl, HBA.out⟩
      have f1 : decide ((2000 : Int) < (c.dt.length : Int)) = false := decide_eq_false m1
      by_cases m2 : (50 : Int) < (c.sn.length : Int)
      · have f2 : decide ((50 : Int) < (c.sn.length : Int)) = true := decide_eq_true m2
        go_wp2_with (have _h := hc; refine wpList_load_rcl rfl (.tmp 20) rfl _ rfl c hc ?_; clear _h hc)
        go_ret
        exact ⟨.inl rfl, HBA.out⟩
      have f2 : decide ((50 : Int) < (c.sn.length : Int)) = false := decide_eq_false m2
      go_wp2_with (have _h := hc; refine wpList_load_rcl rfl (.tmp 20) rfl _ rfl c hc ?_; clear _h hc)
      go_roundw
      case rel =>
        refine ⟨k + 1, by omega, by go_num, fun y hy => ?_, HBA.out⟩
        rw [take_snocI HCK.out] at hy
        rcases List.mem_append.1 hy with h | h
        · exact HX.out.1 y h
        · simp at h; subst h; omega
      case measure => simp [intOf]; omega
    · obtain rfl : k = o.cl.length := by omega
      clear hb
      go_wp2
      go_ret
      refine ⟨.inr ⟨rfl, by omega, by omega, ?_⟩, HX.out.2⟩
      have := HX.out.1
      rwa [List.take_of_length_le (Nat.le_refl _)] at this
theorem wide_any {w : World} (x : PA) (h : x.R w) : Calls Try.prog 11 #[.agg x.cs] w fun e w' => (e = .returned (.bool true) ∨ (e = .returned (.bool false) ∧ x.dt.length ≤ 2000 ∧ x.cx.sn.length ≤ 50)) ∧ Below w.heap.size w w' := by
  have hd1 := h.dl
  have hc1 := h.cx.s1
  have HB0 := Lib.hid (below_alloc w (.cells #[.int .i64 x.kd, .int .i64 x.at_, .int .i64 x.n, .slice x.D x.dt.length x.cd, .int .i64 x.cx.sq, .slice x.cx.S x.cx.sn.length x.cx.cs] 30))
  clear h
  unfold PA.cs
  by_cases n1 : (2000 : Int) < (x.dt.length : Int)
  · have e1 : decide ((2000 : Int) < (x.dt.length : Int)) = true := decide_eq_true n1
    go_enter Try.func11, Try.ntmps11
    go_wp2
    go_ret
    exact ⟨.inl rfl, HB0.out⟩
  have e1 : decide ((2000 : Int) < (x.dt.length : Int)) = false := decide_eq_false n1
  by_cases n2 : (50 : Int) < (x.cx.sn.length : Int)
  · have e2 : decide ((50 : Int) < (x.cx.sn.length : Int)) = true := decide_eq_true n2
    go_enter Try.func11, Try.ntmps11
    go_wp2
    go_ret
    exact ⟨.inl rfl, HB0.out⟩
  have e2 : decide ((50 : Int) < (x.cx.sn.length : Int)) = false := decide_eq_false n2
  go_enter Try.func11, Try.ntmps11
  go_wp2
  go_ret
  exact ⟨.inr ⟨rfl, by omega, by omega⟩, HB0.out⟩
/-- what a change by the program comes to -/
def opR (o : OV) (kd a n : Int) (dt : List Nat) (c : CxV) : OV → Nat → Prop :=
  if kd = 1 then ChR o c (writeK a dt.length) (some (writeD o.dt a.toNat dt)) else if kd = 2 then ChR o c (zeroK o a n) (some (zeroD o.dt a.toNat n.toNat)) else if kd = 3 then ChR o c (cutK o n) (some (o.dt.take n.toNat)) else
  if kd = 4 then ChR o c 0 none else if kd = 5 then ChR o c (backK c a) (atO (seeO o c) a) else TrR o a
theorem opR.one {o : OV} {kd a n : Int} {dt : List Nat} {c : CxV} {x y : OV} {k j : Nat} (h : opR o kd a n dt c x k) (h' : opR o kd a n dt c y j) : x = y ∧ k = j := by
  unfold opR at h h'
  split at h
  · rename_i e; rw [if_pos e] at h'; exact h.one h'
  rename_i e1; rw [if_neg e1] at h'
  split at h
  · rename_i e; rw [if_pos e] at h'; exact h.one h'
  rename_i e2; rw [if_neg e2] at h'
  split at h
  · rename_i e; rw [if_pos e] at h'; exact h.one h'
  rename_i e3; rw [if_neg e3] at h'
  split at h
  · rename_i e; rw [if_pos e] at h'; exact h.one h'
  rename_i e4; rw [if_neg e4] at h'
  split at h
  · rename_i e; rw [if_pos e] at h'; exact h.one h'
  rename_i e5; rw [if_neg e5] at h'
  exact h.one h'
set_option maxHeartbeats 16000000 in
theorem do_any {w : World} (o : OA) (x : PA) (ho : o.R w) (hoS : o.Sm) (hx : x.R w) (hxl : x.dt.length ≤ 100000) : Calls Try.prog 14 #[.agg o.cs, .agg x.cs] w (ChTo w (opR o.v x.kd x.at_ x.n x.dt x.cx.v)) := by
  have HO := Lib.hid (And.intro ho (And.intro hoS (And.intro hx hxl)))
  obtain ⟨w0, hw0⟩ : ∃ w0, w0 = ((w.alloc (.cells o.cs 36)).alloc (.cells x.cs 30)).alloc (.cells #[.bool false, .slice none 0 0, .int .i64 0, .slice none 0 0] 36) := ⟨_, rfl⟩
  have hbel : Below w.heap.size w w0 := by rw [hw0]; exact (((Below.refl _ w).alloc (Nat.le_refl _) _).alloc (by simp) _).alloc (by simp; omega) _
  have b0 : Blk w0 w.heap.size 36 o.cs := by rw [hw0]; exact ((Blk.new w _ _).alloc _).alloc _
  have b1 : Blk w0 (w.heap.size + 1) 30 x.cs := by
    have := (Blk.new (w.alloc (.cells o.cs 36)) 30 x.cs).alloc (.cells #[.bool false, .slice none 0 0, .int .i64 0, .slice none 0 0] 36)
    rw [hw0]
    simpa using this
  have b2 : Blk w0 (w.heap.size + 1 + 1) 36 #[.bool false, .slice none 0 0, .int .i64 0, .slice none 0 0] := by
    have := Blk.new ((w.alloc (.cells o.cs 36)).alloc (.cells x.cs 30)) 36 #[.bool false, .slice none 0 0, .int .i64 0, .slice none 0 0]
    rw [hw0]
    simpa using this
  have HW := Lib.hid (And.intro hbel (And.intro b0 (And.intro b1 b2)))
  have HWE := Lib.hid hw0
  clear ho hoS hx hxl hbel b0 b1 b2 hw0
  unfold OA.cs PA.cs at HWE
  have HEND : Hid (∀ (q : OA) (k : Nat) (w1 w9 : World), opR o.v x.kd x.at_ x.n x.dt x.cx.v q.v k → q.N w1 w0.heap.size → q.Sm → Below w0.heap.size w0 w1 → Only [w.heap.size + 1 + 1] w1 w9 → ChTo w (opR o.v x.kd x.at_ x.n x.dt x.cx.v) (.returned (.tuple #[.agg #[.bool q.th, .slice q.D q.dt.length q.cd, .int .i64 q.sq, .slice q.C q.cl.length q.cc], errV k])) w9) := Lib.hid fun q k w1 w9 hr hN hS hb ho9 => by
    have hz := HW.out.1.size
    have hb2 := HW.out.2.2.2
    refine ⟨q, k, rfl, hr, OA.P.weaken (OA.P.typed hN fun j t cs hbk ht => ho9.block j hbk.lt (fun hm => ?_)) hz, hS, (HW.out.1.trans (hb.mono hz)).trans (ho9.below (B := w.heap.size) (fun j hj => by simp at hj; omega) (by have := hb.size; omega))⟩
    simp at hm
    subst hm
    refine hbk.ne_ (hb2.of (hb.block _ hb2.lt)) ?_ rfl
    rcases ht with rfl | rfl | rfl <;> decide
  have hcs : o.cs = #[.bool o.th, .slice o.D o.dt.length o.cd, .int .i64 o.sq, .slice o.C o.cl.length o.cc] := rfl
  have hxs : x.cs = #[.int .i64 x.kd, .int .i64 x.at_, .int .i64 x.n, .slice x.D x.dt.length x.cd, .int .i64 x.cx.sq, .slice x.cx.S x.cx.sn.length x.cx.cs] := rfl
  have K0 : Blk w0 w.heap.size 36 #[.bool o.th, .slice o.D o.dt.length o.cd, .int .i64 o.sq, .slice o.C o.cl.length o.cc] := HW.out.2.1
  have K1 : Blk w0 (w.heap.size + 1) 30 #[.int .i64 x.kd, .int .i64 x.at_, .int .i64 x.n, .slice x.D x.dt.length x.cd, .int .i64 x.cx.sq, .slice x.cx.S x.cx.sn.length x.cx.cs] := HW.out.2.2.1
  have hrange : w0.rangeAt (w.heap.size + 1) 4 [.int .i64 x.cx.sq, .slice x.cx.S x.cx.sn.length x.cx.cs] := fun j u hj => by
    rw [K1.cell]
    match j, hj with
    | 0, hj => simpa using hj
    | 1, hj => simpa using hj
  have c0 : w0.cell? ⟨w.heap.size + 1, 0, none⟩ = some (.int .i64 x.kd) := K1.cell 0
  have c1 : w0.cell? ⟨w.heap.size + 1, 1, none⟩ = some (.int .i64 x.at_) := K1.cell 1
  have c2 : w0.cell? ⟨w.heap.size + 1, 2, none⟩ = some (.int .i64 x.n) := K1.cell 2
  have c3 : w0.cell? ⟨w.heap.size + 1, 3, none⟩ = some (.slice x.D x.dt.length x.cd) := K1.cell 3
  have hoR := HO.out.1.since HW.out.1
  have hxR := HO.out.2.2.1.since HW.out.1
  rw [hcs, hxs]
  clear hcs hxs K1
  by_cases h1 : x.kd = 1
  · have e1 : (x.kd == 1) = true := beq_iff_eq.2 h1
    have HCH := Lib.hid (snWrite o x.cx x.at_ x.D x.dt.length x.cd x.dt hxR.a1 hxR.a2 hoR HO.out.2.1 hxR.cx hxR.dt HO.out.2.2.2)
    have HOP : Hid (∀ y k, (ChR o.v x.cx.v (writeK x.at_ x.dt.length) (some (writeD o.dt x.at_.toNat x.dt)) y k) → opR o.v x.kd x.at_ x.n x.dt x.cx.v y k) := Lib.hid fun y k hh => by unfold opR; rw [if_pos h1]; exact hh
    unfold OA.cs XA.cells at HCH
    clear hoR hxR h1
    go_enter Try.func14, Try.ntmps14
    go_upto_region 1 with (fail)
    rw [← HWE.out]
    go_wp2_with (first
      | (have _h := K0; refine wpList_loadq rfl 36 (.tmp 2) rfl w.heap.size [.bool o.th, .slice o.D o.dt.length o.cd, .int .i64 o.sq, .slice o.C o.cl.length o.cc] _ rfl K0 Try.underlying36 rfl (by kernel_rfl) ?_; clear _h K0)
      | (have _h := hrange; refine wpList_load_mid rfl 28 (.tmp 11) rfl (w.heap.size + 1) 4 rfl [.int .i64 x.cx.sq, .slice x.cx.S x.cx.sn.length x.cx.cs] _ hrange Try.underlying28 rfl (by kernel_rfl) ?_; clear _h hrange))
    refine HCH.out.mono ?_
    rintro e w1 ⟨q, k, rfl, hr, hN, hS, hb⟩
    have K2 := HW.out.2.2.2.of (hb.block _ HW.out.2.2.2.lt)
    have HF := Lib.hid (HEND.out q k w1 · (HOP.out _ _ hr) hN hS hb)
    have hqs : q.cs = #[.bool q.th, .slice q.D q.dt.length q.cd, .int .i64 q.sq, .slice q.C q.cl.length q.cc] := rfl
    rw [hqs]
    obtain ⟨ek, hek⟩ : ∃ ek, ek = errV k := ⟨_, rfl⟩
    have HEK := Lib.hid hek
    rw [← hek]
    clear hqs hr hN hS hb HCH hek
    go_wp2_with (have _h := K2; refine wpList_storeq rfl 36 (.tmp 4) (.tmp 18) rfl (w.heap.size + 1 + 1) #[.bool false, .slice none 0 0, .int .i64 0, .slice none 0 0] [.bool q.th, .slice q.D q.dt.length q.cd, .int .i64 q.sq, .slice q.C q.cl.length q.cc] rfl rfl K2 rfl (by kernel_rfl) (OA.cs_one q) ?_; clear _h K2; intro w9 K9 ho9 hs9)
    refine bodyPost_ret (res_cell_tmp rfl _ _ (w.heap.size + 1 + 1) [.bool q.th, .slice q.D q.dt.length q.cd, .int .i64 q.sq, .slice q.C q.cl.length q.cc] _ _ rfl rfl K9 Try.underlying36 rfl (by kernel_rfl)) rfl ?_
    have := HF.out w9 ho9
    rw [← HEK.out] at this
    exact this
  by_cases h2 : x.kd = 2
  · have e1 : (x.kd == 1) = false := beq_eq_false_iff_ne.2 h1
    have e2 : (x.kd == 2) = true := beq_iff_eq.2 h2
    have HCH := Lib.hid (snZero o x.cx x.at_ x.n hxR.a1 hxR.a2 hxR.n1 hxR.n2 hoR HO.out.2.1 hxR.cx)
    have HOP : Hid (∀ y k, (ChR o.v x.cx.v (zeroK o.v x.at_ x.n) (some (zeroD o.dt x.at_.toNat x.n.toNat)) y k) → opR o.v x.kd x.at_ x.n x.dt x.cx.v y k) := Lib.hid fun y k hh => by unfold opR; rw [if_neg h1, if_pos h2]; exact hh
    unfold OA.cs XA.cells at HCH
    clear hoR hxR h1 h2
    go_enter Try.func14, Try.ntmps14
    go_upto_region 1 with (fail)
    rw [← HWE.out]
    go_wp2_with (first
      | (have _h := K0; refine wpList_loadq rfl 36 (.tmp 2) rfl w.heap.size [.bool o.th, .slice o.D o.dt.length o.cd, .int .i64 o.sq, .slice o.C o.cl.length o.cc] _ rfl K0 Try.underlying36 rfl (by kernel_rfl) ?_; clear _h K0)
      | (have _h := hrange; refine wpList_load_mid rfl 28 (.tmp 23) rfl (w.heap.size + 1) 4 rfl [.int .i64 x.cx.sq, .slice x.cx.S x.cx.sn.length x.cx.cs] _ hrange Try.underlying28 rfl (by kernel_rfl) ?_; clear _h hrange))
    refine HCH.out.mono ?_
    rintro e w1 ⟨q, k, rfl, hr, hN, hS, hb⟩
    have K2 := HW.out.2.2.2.of (hb.block _ HW.out.2.2.2.lt)
    have HF := Lib.hid (HEND.out q k w1 · (HOP.out _ _ hr) hN hS hb)
    have hqs : q.cs = #[.bool q.th, .slice q.D q.dt.length q.cd, .int .i64 q.sq, .slice q.C q.cl.length q.cc] := rfl
    rw [hqs]
    obtain ⟨ek, hek⟩ : ∃ ek, ek = errV k := ⟨_, rfl⟩
    have HEK := Lib.hid hek
    rw [← hek]
    clear hqs hr hN hS hb HCH hek
    go_wp2_with (have _h := K2; refine wpList_storeq rfl 36 (.tmp 4) (.tmp 30) rfl (w.heap.size + 1 + 1) #[.bool false, .slice none 0 0, .int .i64 0, .slice none 0 0] [.bool q.th, .slice q.D q.dt.length q.cd, .int .i64 q.sq, .slice q.C q.cl.length q.cc] rfl rfl K2 rfl (by kernel_rfl) (OA.cs_one q) ?_; clear _h K2; intro w9 K9 ho9 hs9)
    refine bodyPost_ret (res_cell_tmp rfl _ _ (w.heap.size + 1 + 1) [.bool q.th, .slice q.D q.dt.length q.cd, .int .i64 q.sq, .slice q.C q.cl.length q.cc] _ _ rfl rfl K9 Try.underlying36 rfl (by kernel_rfl)) rfl ?_
    have := HF.out w9 ho9
    rw [← HEK.out] at this
    exact this
  by_cases h3 : x.kd = 3
  · have e1 : (x.kd == 1) = false := beq_eq_false_iff_ne.2 h1
    have e2 : (x.kd == 2) = false := beq_eq_false_iff_ne.2 h2
    have e3 : (x.kd == 3) = true := beq_iff_eq.2 h3
    have HCH := Lib.hid (snCut o x.cx x.n hxR.n1 hxR.n2 hoR HO.out.2.1 hxR.cx)
    have HOP : Hid (∀ y k, (ChR o.v x.cx.v (cutK o.v x.n) (some (o.dt.take x.n.toNat)) y k) → opR o.v x.kd x.at_ x.n x.dt x.cx.v y k) := Lib.hid fun y k hh => by unfold opR; rw [if_neg h1, if_neg h2, if_pos h3]; exact hh
    unfold OA.cs XA.cells at HCH
    clear hoR hxR h1 h2 h3
    go_enter Try.func14, Try.ntmps14
    go_upto_region 1 with (fail)
    rw [← HWE.out]
    go_wp2_with (first
      | (have _h := K0; refine wpList_loadq rfl 36 (.tmp 2) rfl w.heap.size [.bool o.th, .slice o.D o.dt.length o.cd, .int .i64 o.sq, .slice o.C o.cl.length o.cc] _ rfl K0 Try.underlying36 rfl (by kernel_rfl) ?_; clear _h K0)
      | (have _h := hrange; refine wpList_load_mid rfl 28 (.tmp 35) rfl (w.heap.size + 1) 4 rfl [.int .i64 x.cx.sq, .slice x.cx.S x.cx.sn.length x.cx.cs] _ hrange Try.underlying28 rfl (by kernel_rfl) ?_; clear _h hrange))
    refine HCH.out.mono ?_
    rintro e w1 ⟨q, k, rfl, hr, hN, hS, hb⟩
    have K2 := HW.out.2.2.2.of (hb.block _ HW.out.2.2.2.lt)
    have HF := Lib.hid (HEND.out q k w1 · (HOP.out _ _ hr) hN hS hb)
    have hqs : q.cs = #[.bool q.th, .slice q.D q.dt.length q.cd, .int .i64 q.sq, .slice q.C q.cl.length q.cc] := rfl
    rw [hqs]
    obtain ⟨ek, hek⟩ : ∃ ek, ek = errV k := ⟨_, rfl⟩
    have HEK := Lib.hid hek
    rw [← hek]
    clear hqs hr hN hS hb HCH hek
    go_wp2_with (have _h := K2; refine wpList_storeq rfl 36 (.tmp 4) (.tmp 40) rfl (w.heap.size + 1 + 1) #[.bool false, .slice none 0 0, .int .i64 0, .slice none 0 0] [.bool q.th, .slice q.D q.dt.length q.cd, .int .i64 q.sq, .slice q.C q.cl.length q.cc] rfl rfl K2 rfl (by kernel_rfl) (OA.cs_one q) ?_; clear _h K2; intro w9 K9 ho9 hs9)
    refine bodyPost_ret (res_cell_tmp rfl _ _ (w.heap.size + 1 + 1) [.bool q.th, .slice q.D q.dt.length q.cd, .int .i64 q.sq, .slice q.C q.cl.length q.cc] _ _ rfl rfl K9 Try.underlying36 rfl (by kernel_rfl)) rfl ?_
    have := HF.out w9 ho9
    rw [← HEK.out] at this
    exact this
  by_cases h4 : x.kd = 4
  · have e1 : (x.kd == 1) = false := beq_eq_false_iff_ne.2 h1
    have e2 : (x.kd == 2) = false := beq_eq_false_iff_ne.2 h2
    have e3 : (x.kd == 3) = false := beq_eq_false_iff_ne.2 h3
    have e4 : (x.kd == 4) = true := beq_iff_eq.2 h4
    have HCH := Lib.hid (snDrop o x.cx hoR HO.out.2.1 hxR.cx)
    have HOP : Hid (∀ y k, (ChR o.v x.cx.v 0 none y k) → opR o.v x.kd x.at_ x.n x.dt x.cx.v y k) := Lib.hid fun y k hh => by unfold opR; rw [if_neg h1, if_neg h2, if_neg h3, if_pos h4]; exact hh
    unfold OA.cs XA.cells at HCH
    clear hoR hxR h1 h2 h3 h4
    go_enter Try.func14, Try.ntmps14
    go_upto_region 1 with (fail)
    rw [← HWE.out]
    go_wp2_with (first
      | (have _h := K0; refine wpList_loadq rfl 36 (.tmp 2) rfl w.heap.size [.bool o.th, .slice o.D o.dt.length o.cd, .int .i64 o.sq, .slice o.C o.cl.length o.cc] _ rfl K0 Try.underlying36 rfl (by kernel_rfl) ?_; clear _h K0)
      | (have _h := hrange; refine wpList_load_mid rfl 28 (.tmp 45) rfl (w.heap.size + 1) 4 rfl [.int .i64 x.cx.sq, .slice x.cx.S x.cx.sn.length x.cx.cs] _ hrange Try.underlying28 rfl (by kernel_rfl) ?_; clear _h hrange))
    refine HCH.out.mono ?_
    rintro e w1 ⟨q, k, rfl, hr, hN, hS, hb⟩
    have K2 := HW.out.2.2.2.of (hb.block _ HW.out.2.2.2.lt)
    have HF := Lib.hid (HEND.out q k w1 · (HOP.out _ _ hr) hN hS hb)
    have hqs : q.cs = #[.bool q.th, .slice q.D q.dt.length q.cd, .int .i64 q.sq, .slice q.C q.cl.length q.cc] := rfl
    rw [hqs]
    obtain ⟨ek, hek⟩ : ∃ ek, ek = errV k := ⟨_, rfl⟩
    have HEK := Lib.hid hek
    rw [← hek]
    clear hqs hr hN hS hb HCH hek
    go_wp2_with (have _h := K2; refine wpList_storeq rfl 36 (.tmp 4) (.tmp 48) rfl (w.heap.size + 1 + 1) #[.bool false, .slice none 0 0, .int .i64 0, .slice none 0 0] [.bool q.th, .slice q.D q.dt.length q.cd, .int .i64 q.sq, .slice q.C q.cl.length q.cc] rfl rfl K2 rfl (by kernel_rfl) (OA.cs_one q) ?_; clear _h K2; intro w9 K9 ho9 hs9)
    refine bodyPost_ret (res_cell_tmp rfl _ _ (w.heap.size + 1 + 1) [.bool q.th, .slice q.D q.dt.length q.cd, .int .i64 q.sq, .slice q.C q.cl.length q.cc] _ _ rfl rfl K9 Try.underlying36 rfl (by kernel_rfl)) rfl ?_
    have := HF.out w9 ho9
    rw [← HEK.out] at this
    exact this
  by_cases h5 : x.kd = 5
  · have e1 : (x.kd == 1) = false := beq_eq_false_iff_ne.2 h1
    have e2 : (x.kd == 2) = false := beq_eq_false_iff_ne.2 h2
    have e3 : (x.kd == 3) = false := beq_eq_false_iff_ne.2 h3
    have e4 : (x.kd == 4) = false := beq_eq_false_iff_ne.2 h4
    have e5 : (x.kd == 5) = true := beq_iff_eq.2 h5
    have HCH := Lib.hid (snBack o x.cx x.at_ hxR.a1 hxR.a2 hoR HO.out.2.1 hxR.cx)
    have HOP : Hid (∀ y k, (ChR o.v x.cx.v (backK x.cx.v x.at_) (atO (seeO o.v x.cx.v) x.at_) y k) → opR o.v x.kd x.at_ x.n x.dt x.cx.v y k) := Lib.hid fun y k hh => by unfold opR; rw [if_neg h1, if_neg h2, if_neg h3, if_neg h4, if_pos h5]; exact hh
    unfold OA.cs XA.cells at HCH
    clear hoR hxR h1 h2 h3 h4 h5
    go_enter Try.func14, Try.ntmps14
    go_upto_region 1 with (fail)
    rw [← HWE.out]
    go_wp2_with (first
      | (have _h := K0; refine wpList_loadq rfl 36 (.tmp 2) rfl w.heap.size [.bool o.th, .slice o.D o.dt.length o.cd, .int .i64 o.sq, .slice o.C o.cl.length o.cc] _ rfl K0 Try.underlying36 rfl (by kernel_rfl) ?_; clear _h K0)
      | (have _h := hrange; refine wpList_load_mid rfl 28 (.tmp 53) rfl (w.heap.size + 1) 4 rfl [.int .i64 x.cx.sq, .slice x.cx.S x.cx.sn.length x.cx.cs] _ hrange Try.underlying28 rfl (by kernel_rfl) ?_; clear _h hrange))
    refine HCH.out.mono ?_
    rintro e w1 ⟨q, k, rfl, hr, hN, hS, hb⟩
    have K2 := HW.out.2.2.2.of (hb.block _ HW.out.2.2.2.lt)
    have HF := Lib.hid (HEND.out q k w1 · (HOP.out _ _ hr) hN hS hb)
    have hqs : q.cs = #[.bool q.th, .slice q.D q.dt.length q.cd, .int .i64 q.sq, .slice q.C q.cl.length q.cc] := rfl
    rw [hqs]
    obtain ⟨ek, hek⟩ : ∃ ek, ek = errV k := ⟨_, rfl⟩
    have HEK := Lib.hid hek
    rw [← hek]
    clear hqs hr hN hS hb HCH hek
    go_wp2_with (have _h := K2; refine wpList_storeq rfl 36 (.tmp 4) (.tmp 58) rfl (w.heap.size + 1 + 1) #[.bool false, .slice none 0 0, .int .i64 0, .slice none 0 0] [.bool q.th, .slice q.D q.dt.length q.cd, .int .i64 q.sq, .slice q.C q.cl.length q.cc] rfl rfl K2 rfl (by kernel_rfl) (OA.cs_one q) ?_; clear _h K2; intro w9 K9 ho9 hs9)
    refine bodyPost_ret (res_cell_tmp rfl _ _ (w.heap.size + 1 + 1) [.bool q.th, .slice q.D q.dt.length q.cd, .int .i64 q.sq, .slice q.C q.cl.length q.cc] _ _ rfl rfl K9 Try.underlying36 rfl (by kernel_rfl)) rfl ?_
    have := HF.out w9 ho9
    rw [← HEK.out] at this
    exact this
  have e1 : (x.kd == 1) = false := beq_eq_false_iff_ne.2 h1
  have e2 : (x.kd == 2) = false := beq_eq_false_iff_ne.2 h2
  have e3 : (x.kd == 3) = false := beq_eq_false_iff_ne.2 h3
  have e4 : (x.kd == 4) = false := beq_eq_false_iff_ne.2 h4
  have e5 : (x.kd == 5) = false := beq_eq_false_iff_ne.2 h5
  have HCH := Lib.hid (snTrim o x.at_ hoR HO.out.2.1)
  have HOP : Hid (∀ y k, (TrR o.v x.at_ y k) → opR o.v x.kd x.at_ x.n x.dt x.cx.v y k) := Lib.hid fun y k hh => by unfold opR; rw [if_neg h1, if_neg h2, if_neg h3, if_neg h4, if_neg h5]; exact hh
  unfold OA.cs at HCH
  clear hoR hxR h1 h2 h3 h4 h5
  go_enter Try.func14, Try.ntmps14
  go_upto_region 1 with (fail)
  rw [← HWE.out]
  go_wp2_with (have _h := K0; refine wpList_loadq rfl 36 (.tmp 2) rfl w.heap.size [.bool o.th, .slice o.D o.dt.length o.cd, .int .i64 o.sq, .slice o.C o.cl.length o.cc] _ rfl K0 Try.underlying36 rfl (by kernel_rfl) ?_; clear _h K0)
  refine HCH.out.mono ?_
  rintro e w1 ⟨q, k, rfl, hr, hN, hS, hb⟩
  have K2 := HW.out.2.2.2.of (hb.block _ HW.out.2.2.2.lt)
  have HF := Lib.hid (HEND.out q k w1 · (HOP.out _ _ hr) hN hS hb)
  have hqs : q.cs = #[.bool q.th, .slice q.D q.dt.length q.cd, .int .i64 q.sq, .slice q.C q.cl.length q.cc] := rfl
  rw [hqs]
  obtain ⟨ek, hek⟩ : ∃ ek, ek = errV k := ⟨_, rfl⟩
  have HEK := Lib.hid hek
  rw [← hek]
  clear hqs hr hN hS hb HCH hek
  go_wp2_with (have _h := K2; refine wpList_storeq rfl 36 (.tmp 4) (.tmp 64) rfl (w.heap.size + 1 + 1) #[.bool false, .slice none 0 0, .int .i64 0, .slice none 0 0] [.bool q.th, .slice q.D q.dt.length q.cd, .int .i64 q.sq, .slice q.C q.cl.length q.cc] rfl rfl K2 rfl (by kernel_rfl) (OA.cs_one q) ?_; clear _h K2; intro w9 K9 ho9 hs9)
  refine bodyPost_ret (res_cell_tmp rfl _ _ (w.heap.size + 1 + 1) [.bool q.th, .slice q.D q.dt.length q.cd, .int .i64 q.sq, .slice q.C q.cl.length q.cc] _ _ rfl rfl K9 Try.underlying36 rfl (by kernel_rfl)) rfl ?_
  have := HF.out w9 ho9
  rw [← HEK.out] at this
  exact this
end Go.Proofs.Ytcbpdalfindmgaa

/-
  Changes in memory: how a script of them lies, how one is read; what a change and what forgetting come to. Conditions: the script reads as it is said to.
-/
namespace Go.Proofs.Ytcbpdalfindmgaa
open Go.RowKit Go.BigFrame
set_option linter.unusedSimpArgs false
set_option linter.unusedVariables false
set_option maxRecDepth 100000
def PA.cells (x : PA) : List Value := [.int .i64 x.kd, .int .i64 x.at_, .int .i64 x.n, .slice x.D x.dt.length x.cd, .int .i64 x.cx.sq, .slice x.cx.S x.cx.sn.length x.cx.cs]
theorem PA.cells_len (x : PA) : x.cells.length = 6 := rfl
structure PasR (w : World) (A : Option Addr) (os : List PA) : Prop where
  row : Reads w w.heap.size 6 A os.length (os.flatMap PA.cells)
  ok : ∀ o ∈ os, o.R w
theorem PasR.since {w w' : World} {A : Option Addr} {os : List PA} (h : PasR w A os) (hb : Below w.heap.size w w') : PasR w' A os := ⟨(h.row.since hb).more hb.size, fun o ho => (h.ok o ho).since hb⟩
theorem PasR.get {w : World} {A : Option Addr} {os : List PA} (h : PasR w A os) {k : Nat} {o : PA} (hk : os[k]? = some o) : ∃ ad, A = some ad ∧ ad.block < w.heap.size ∧ ∀ j v, o.cells[j]? = some v → w.cell? ((ad.add (k * 6)).add j) = some v := by
  have hl := (List.getElem?_eq_some_iff.1 hk).1
  obtain ⟨ad, e, hb, hc⟩ := h.row.2 (by omega)
  refine ⟨ad, e, hb, fun j v hj => ?_⟩
  rw [add_of_add]
  have hj6 : j < 6 := by have := (List.getElem?_eq_some_iff.1 hj).1; rwa [PA.cells_len] at this
  exact hc _ v (by rw [flat_at PA.cells 6 PA.cells_len os k j o hk hj6]; exact hj)
theorem run_loadVar_pa (w : World) (p : Addr) (s : PA) (hc : ∀ j v, s.cells[j]? = some v → w.cell? (p.add j) = some v) : (loadVar 30 p).run Try.prog w = .ok (.agg s.cells.toArray) w := by
  have hl : (loadCells p 6).run Try.prog w = .ok s.cells.toArray w := run_loadCells_list (P := Try.prog) w p s.cells hc
  have hagg : (isAgg 30).run Try.prog w = .ok true w := by
    unfold isAgg
    rw [Sem.run_bind, run_underlying Try.underlying30 w]
    rfl
  have hi : (Try.prog.info? 30).map (·.size) = some 6 := by kernel_rfl
  cases hq : Try.prog.info? 30 with
  | none => simp [hq] at hi
  | some i =>
    have hs : i.size = 6 := by simpa [hq] using hi
    simp [loadVar, Sem.run_bind, hagg, sizeOf, typeInfo, hq, hs, hl]
theorem wpList_load_pa {ops : Array Oper} {rest : List Oper} {op : Oper} {a : Act} {w : World} {Q : Exit → Act → World → Prop} (hgd : op.guard = none) (x : Operand) (ho : op.op = .load 30 x)
    (p : Addr) (hx : a.eval x = .pointer (some p)) (s : PA) (hc : ∀ j v, s.cells[j]? = some v → w.cell? (p.add j) = some v)
    (h : wpList Try.prog ops Q rest (a.put op.dst (.agg #[.int .i64 s.kd, .int .i64 s.at_, .int .i64 s.n, .slice s.D s.dt.length s.cd, .int .i64 s.cx.sq, .slice s.cx.S s.cx.sn.length s.cx.cs])) w) : wpList Try.prog ops Q (op :: rest) a w :=
  wpList_plain hgd fun _ hK => by
    unfold Oper.wp execOp
    simp only [ho, hx, Instr.loadAt, Instr.sureAddr, Sem.run_bind, Sem.run_pure, Result.andThen_ok, run_loadVar_pa w p s hc]
    exact hK _ _ h
/-! ### what a change comes to -/
theorem seeO_good {o : OV} {c : CxV} (hg : Good o) (hc : CxG c) (hq : o.sq ≤ c.sq) (hn : (seeO o c).cl.length ≤ 16) : Good (seeO o c) := by
  cases ht : o.th with
  | true =>
    have h := see_good hg hc hq hn (some o.dt) (fun d e => by injection e with e; subst e; exact hg.dt)
    have e : withHead (seeO o c) (some o.dt) = seeO o c := by simp [withHead, seeO, ht]
    rwa [e] at h
  | false =>
    have h := see_good hg hc hq hn none (fun d e => by cases e)
    have e : withHead (seeO o c) none = seeO o c := by simp [withHead, seeO, ht, hg.th ht]
    rwa [e] at h
theorem ChR.good {o x : OV} {c : CxV} {km k : Nat} {hd : Option (List Nat)} (h : ChR o c km hd x k) (hk : k = 0) (hh : km = 0 → Good o → Good (seeO o c) → ∀ d, hd = some d → d.length ≤ 256) : Good x ∧ x.sq = c.sq := by
  cases h with
  | bad _ => cases hk
  | ctx _ _ => cases hk
  | may _ _ _ h => exact absurd hk h
  | many _ _ _ _ _ => cases hk
  | ok h1 h2 h3 h4 h5 =>
    refine ⟨see_good h1 h2 h3 h5 hd (hh h4 h1 (seeO_good h1 h2 h3 h5)), ?_⟩
    cases hd <;> rfl
theorem opR.good {o x : OV} {kd a n : Int} {dt : List Nat} {c : CxV} {k : Nat} (h : opR o kd a n dt c x k) (hk : k = 0) (h1 : 1 ≤ kd) (h5 : kd ≤ 5) : Good x ∧ x.sq = c.sq := by
  unfold opR at h
  split at h
  · refine h.good hk fun h0 hg hs d e => ?_
    injection e with e
    subst e
    rw [writeD_len]
    unfold writeK at h0
    split at h0
    · cases h0
    · have := hg.dt
      omega
  split at h
  · refine h.good hk fun h0 hg hs d e => ?_
    injection e with e
    subst e
    rw [zeroD_len]
    exact hg.dt
  split at h
  · refine h.good hk fun h0 hg hs d e => ?_
    injection e with e
    subst e
    have := hg.dt
    simp
    omega
  split at h
  · exact h.good hk fun h0 hg hs d e => by cases e
  split at h
  · exact h.good hk fun h0 hg hs d e => atO_len e hs
  · omega
/-- the head is dropped, no snapshot made since -/
theorem drop_ok {o x : OV} {k : Nat} (hg : Good o) (h : ChR o ⟨o.sq, []⟩ 0 none x k) : k = 0 ∧ x = ⟨false, [], o.sq, o.cl⟩ ∧ Good x := by
  have hc : CxG ⟨o.sq, []⟩ := ⟨hg.sq, by simp, by simp, fun s hs => by cases hs⟩
  have e : seeO o ⟨o.sq, []⟩ = ⟨o.th, o.dt, o.sq, o.cl⟩ := by simp [seeO, newCl, freshI]
  have h16 : (seeO o ⟨o.sq, []⟩).cl.length ≤ 16 := by rw [e]; exact hg.cn
  obtain ⟨hx, hk⟩ := h.one (.ok hg hc (Int.le_refl _) rfl h16)
  refine ⟨hk, ?_, ?_⟩
  · rw [hx, e]; rfl
  · exact (h.good hk (fun _ _ _ d e => by cases e)).1
/-- what is left when all snapshots before s are forgotten -/
structure Left (q : Int) (s : Int) (x : OV) : Prop where
  g : Good x
  th : x.th = false
  sq : x.sq = q
  sn : ∀ y ∈ snAll x.cl, s ≤ y
theorem Left.first {o x : OV} (hg : Good x) (h : x = ⟨false, [], o.sq, o.cl⟩) : Left o.sq 1 x := ⟨hg, by rw [h], by rw [h], fun y hy => by have := hg.lim y hy; omega⟩
theorem Left.next {q s : Int} {x y : OV} {k : Nat} (h : Left q s x) (h1 : 1 ≤ s) (ht : TrR x s y k) : k = 0 ∧ Left q (s + 1) y := by
  obtain ⟨rfl, rfl⟩ := ht.one (.ok h.g h1)
  refine ⟨rfl, trim_good h.g s, h.th, h.sq, fun y hy => ?_⟩
  have hy' : y ∈ snAll (trimCl x.cl s) := hy
  rw [trim_snaps] at hy'
  obtain ⟨h2, h3⟩ := List.mem_filter.1 hy'
  have h4 := h.sn y h2
  have h5 : y ≠ s := by simpa using h3
  omega
theorem Left.last {q s : Int} {x : OV} (h : Left q s x) (hs : q < s) : x.cl = [] := by
  refine trim_none ?_ h.g.cl
  refine List.eq_nil_iff_forall_not_mem.2 fun y hy => ?_
  have h1 := h.sn y hy
  have h2 := (h.g.lim y hy).2
  rw [h.sq] at h2
  omega
/-! ### is an object empty? -/
theorem empty_any {w : World} (o : OA) (hc : o.cl.length ≤ 1000) : Calls Try.prog 26 #[.agg o.cs] w fun e w' => e = .returned (.bool (!o.th && decide (o.cl.length = 0))) ∧ Below w.heap.size w w' := by
  have HB0 := Lib.hid (below_alloc w (.cells #[.bool o.th, .slice o.D o.dt.length o.cd, .int .i64 o.sq, .slice o.C o.cl.length o.cc] 36))
  unfold OA.cs
  cases ht : o.th with
  | true =>
    rw [ht] at HB0
    go_enter Try.func26, Try.ntmps26
    go_wp2
    go_ret
    exact ⟨rfl, HB0.out⟩
  | false =>
    rw [ht] at HB0
    generalize o.cl.length = n at *
    by_cases h0 : n = 0
    · subst h0
      go_enter Try.func26, Try.ntmps26
      go_wp2
      go_ret
      exact ⟨rfl, HB0.out⟩
    · have e1 : ((n : Int) == 0) = false := beq_eq_false_iff_ne.2 (by omega)
      have e2 : decide (n = 0) = false := decide_eq_false h0
      rw [e2]
      clear e2
      go_enter Try.func26, Try.ntmps26
      go_wp2
      go_ret
      exact ⟨rfl, HB0.out⟩
end Go.Proofs.Ytcbpdalfindmgaa

/-
  Memory while a script is gone through: an object and a context, each in its variable. No condition but the sizes.
-/
namespace Go.Proofs.Ytcbpdalfindmgaa
open Go.RowKit Go.BigFrame
set_option linter.unusedSimpArgs false
set_option linter.unusedVariables false
set_option maxRecDepth 100000
theorem OwnI.one (w : World) (base : Nat) (x : Int) (hb : base ≤ w.heap.size) : OwnI (w.alloc (.cells #[.int .i64 x] 3)) base (.slice (some ⟨w.heap.size, 0, none⟩) 1 1) 1 [x] :=
  ⟨by simp [i64s], .inr ⟨w.heap.size, 1, #[.int .i64 x], rfl, hb, heap_alloc_new w _, Nat.le_refl _, by simp [maxLen], rfl, by simp [i64s]⟩⟩
theorem wp_storeq {P : Program} {o : Oper} {a : Act} {w : World} {K : Act → World → Prop} {Q : Exit → Act → World → Prop} (ty : TypeId) (x y : Operand) (ho : o.op = .store ty x y)
    (g : Nat) (cs : Array Value) (vs : List Value) (hx : a.eval x = .pointer (some ⟨g, 0, none⟩)) (hy : a.eval y = .agg vs.toArray) (hB : Blk w g ty cs) (hs : vs.length = cs.size) (hi : (P.info? ty).map (·.size) = some vs.length) (h1 : ∀ v ∈ vs, v.oneCell' = true)
    (h : ∀ w', Blk w' g ty vs.toArray → Only [g] w w' → w'.heap.size = w.heap.size → K (a.put o.dst undef) w') : o.wp P a w K Q :=
  wp_store_mid ty x y ho g 0 vs.toArray hx hy (hB.there (by simp [hs])) (by simpa using hi) (all_oneCell_toArray h1)
    (h _ (by simpa using hB.over vs hs) ((Only.refl _ _).grown (by simpa using (setCells_grown g vs 0 w).1) (fun k e => .inl (by injection e with e; simp [e]))) (by simpa using (setCells_grown g vs 0 w).2))
/-- the context of a change in its variable is stored -/
theorem wpList_store_cx {P : Program} {ops : Array Oper} {rest : List Oper} {o : Oper} {a : Act} {w : World} {Q : Exit → Act → World → Prop} (hgd : o.guard = none) (ty : TypeId) (x y : Operand) (ho : o.op = .store ty x y)
    (g : Nat) (t : TypeId) (v0 v1 v2 v3 v4 v5 u4 u5 : Value) (hx : a.eval x = .pointer (some ⟨g, 4, none⟩)) (hy : a.eval y = .agg #[u4, u5]) (hB : Blk w g t #[v0, v1, v2, v3, v4, v5]) (hi : (P.info? ty).map (·.size) = some 2) (h4 : u4.oneCell' = true) (h5 : u5.oneCell' = true)
    (h : ∀ w', Blk w' g t #[v0, v1, v2, v3, u4, u5] → Only [g] w w' → w'.heap.size = w.heap.size → wpList P ops Q rest (a.put o.dst undef) w') : wpList P ops Q (o :: rest) a w :=
  wpList_store_mid hgd ty x y ho g 4 #[u4, u5] hx hy (hB.there (by simp)) (by simpa using hi) (by simp [h4, h5])
    (h _ (by simpa [World.setCells] using (hB.set_ 4 u4).set_ 5 u5) (by simpa [World.setCells] using ((Only.refl [g] w).setCell (p := ⟨g, 4, none⟩) (.inl (by simp)) u4).setCell (p := ⟨g, 5, none⟩) (.inl (by simp)) u5) (by simp [World.setCells, World.setCell]))
structure Fgt (w : World) (g : Nat) (q : OA) (L : List Int) (S : Option Addr) (c : Nat) (wr : World) : Prop where
  bo : Blk wr g 36 #[.bool q.th, .slice q.D q.dt.length q.cd, .int .i64 q.sq, .slice q.C q.cl.length q.cc]
  bc : Blk wr (g + 1) 28 #[.int .i64 (L.length : Int), .slice S L.length c]
  own : q.N wr w.heap.size
  ctx : OwnI wr w.heap.size (.slice S L.length c) L.length L
  li : ∀ s ∈ L, -9223372036854775808 ≤ s ∧ s ≤ 9223372036854775807
  sm : q.Sm
  good : Good q.v
  sq : q.sq ≤ L.length
  l16 : L.length ≤ 16
  bel : Below w.heap.size w wr
  far : w.heap.size ≤ g
section
variable {w wr wr' : World} {g c : Nat} {q : OA} {L : List Int} {S : Option Addr}
theorem Fgt.next (h : Fgt w g q L S c wr) (hb : Below wr.heap.size wr wr') : Fgt w g q L S c wr' :=
  ⟨h.bo.of (hb.block _ h.bo.lt), h.bc.of (hb.block _ h.bc.lt), OA.N.below h.own hb, OwnI.below h.ctx hb, h.li, h.sm, h.good, h.sq, h.l16, h.bel.trans (hb.mono h.bel.size), h.far⟩
theorem Fgt.drew (h : Fgt w g q L S c wr) : Fgt w g q L S c wr.drew := h.next (Below.refl _ wr).drew
theorem Fgt.x (h : Fgt w g q L S c wr) : XA.R ⟨L.length, L, S, c⟩ wr := by
  obtain ⟨-, s1, s2, -⟩ := own_shape h.ctx
  have := h.l16
  unfold maxLen at s2
  exact ⟨OwnI.ints h.ctx, h.li, by show _ ≤ (L.length : Int); omega, by show (L.length : Int) ≤ _; omega, by show L.length ≤ _; omega, s1⟩
theorem Fgt.few (h : Fgt w g q L S c wr) : (q.cl.length : Int) ≤ L.length := by
  have h1 := h.good.few
  have h2 := h.sq
  have e1 : q.v.cl.length = q.cl.length := OA.vs_len q
  have e2 : q.v.sq = q.sq := rfl
  omega
/-- another object is put into the variable -/
theorem Fgt.put {q' : OA} (h : Fgt w g q L S c wr) (hN : q'.N wr w.heap.size) (hS : q'.Sm) (hg : Good q'.v) (hq : q'.sq ≤ L.length) (ho : Only [g] wr wr') (K : Blk wr' g 36 #[.bool q'.th, .slice q'.D q'.dt.length q'.cd, .int .i64 q'.sq, .slice q'.C q'.cl.length q'.cc]) : Fgt w g q' L S c wr' := by
  refine ⟨K, h.bc.only ho (by simp), OA.P.typed hN fun k t cs hb ht => ho.block k hb.lt (fun hm => ?_), row_of h.ctx fun k hk => ho.block k (row_under h.ctx k hk) (fun hm => ?_), h.li, hS, hg, hq, h.l16, h.bel.trans (ho.below (B := w.heap.size) (fun k hk => by simp at hk; have := h.far; omega) h.bel.size), h.far⟩
  · simp at hm
    subst hm
    refine hb.ne_ h.bo ?_ rfl
    rcases ht with rfl | rfl | rfl <;> decide
  · simp at hm
    subst hm
    obtain ⟨cs, hb⟩ := own_ty h.ctx hk
    exact hb.ne_ h.bo (by decide) rfl
/-- another context is put into the variable -/
theorem Fgt.cx {L' : List Int} {S' : Option Addr} {c' : Nat} (h : Fgt w g q L S c wr) (hc : OwnI wr w.heap.size (.slice S' L'.length c') L'.length L') (hl : ∀ s ∈ L', -9223372036854775808 ≤ s ∧ s ≤ 9223372036854775807) (h16 : L'.length ≤ 16) (hq : L.length ≤ L'.length) (ho : Only [g + 1] wr wr') (K : Blk wr' (g + 1) 28 #[.int .i64 (L'.length : Int), .slice S' L'.length c']) : Fgt w g q L' S' c' wr' := by
  refine ⟨h.bo.only ho (by simp), K, OA.P.typed h.own fun k t cs hb ht => ho.block k hb.lt (fun hm => ?_), row_of hc fun k hk => ho.block k (row_under hc k hk) (fun hm => ?_), hl, h.sm, h.good, by have := h.sq; omega, h16, h.bel.trans (ho.below (B := w.heap.size) (fun k hk => by simp at hk; have := h.far; omega) h.bel.size), h.far⟩
  · simp at hm
    subst hm
    refine hb.ne_ h.bc ?_ rfl
    rcases ht with rfl | rfl | rfl <;> decide
  · simp at hm
    subst hm
    obtain ⟨cs, hb⟩ := own_ty hc hk
    exact hb.ne_ h.bc (by decide) rfl
theorem Fgt.grown {row : Option Nat} (h : Fgt w g q L S c wr) (hg : wr.grownBy wr' row) (hr : ∀ k, row = some k → wr.heap.size ≤ k) : Fgt w g q L S c wr' := h.next ((Below.refl _ wr).grown hg (Nat.le_refl _) hr)
theorem Fgt.zero {w0 : World} (hb : Below w.heap.size w w0) (hw : wr = (w0.alloc (.cells #[.bool false, .slice none 0 0, .int .i64 0, .slice none 0 0] 36)).alloc (.cells #[.int .i64 0, .slice none 0 0] 28)) : Fgt w w0.heap.size OA.zero [] none 0 wr := by
  have hb2 : Below w.heap.size w wr := by rw [hw]; exact (hb.alloc hb.size _).alloc (by simp; have := hb.size; omega) _
  refine ⟨by rw [hw]; exact (Blk.new w0 _ _).alloc _, ?_, OA.zero_N _ _, OwnI.nil _ _, fun s hs => (by cases hs), OA.zero_Sm, ?_, by decide, by decide, hb2, hb.size⟩
  · have := Blk.new (w0.alloc (.cells #[.bool false, .slice none 0 0, .int .i64 0, .slice none 0 0] 36)) 28 #[.int .i64 0, .slice none 0 0]
    rw [hw]
    simpa using this
  · exact ⟨by decide, by decide, fun _ => rfl, by decide, fun c hc => (by cases hc), List.Pairwise.nil, fun s hs => (by cases hs)⟩
end
end Go.Proofs.Ytcbpdalfindmgaa
