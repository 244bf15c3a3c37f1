/-
  A snapshot is forgotten. Conditions: the object reads as it is said to, and is small.
-/
import Derived.Test.YtjepfeagbiceoaaQr
namespace Go.Proofs.Ytjepfeagbiceoaa
open Go.RowKit Go.BigFrame
set_option linter.unusedSimpArgs false
set_option linter.unusedVariables false
set_option maxRecDepth 100000
theorem add_zero_off' (g o : Nat) : (⟨g, o, none⟩ : Addr).add 0 = ⟨g, o, none⟩ := by simp [Addr.add]
inductive TrR (o : OV) (s : Int) : OV → Nat → Prop
  | bad : ¬ Good o → TrR o s OV.zero 2
  | rng : Good o → s < 1 → TrR o s OV.zero 1
  | ok : Good o → 1 ≤ s → TrR o s (trimO o s) 0
theorem TrR.one {o : OV} {s : Int} {x y : OV} {k j : Nat} (h : TrR o s x k) (h' : TrR o s y j) : x = y ∧ k = j := by
  cases h <;> cases h' <;> first
    | exact ⟨rfl, rfl⟩
    | (exfalso; contradiction)
    | (exfalso; omega)
theorem flat_set1 : ∀ (L : List CA) (k : Nat) (c : CA) (l' : List Int), L[k]? = some c → (L.flatMap CA.cells).set (k * 2) (.slice c.S l'.length c.cs) = (L.set k {c with sn := l'}).flatMap CA.cells
  | [], k, c, l', h => by simp at h
  | x :: L, 0, c, l', h => by
    simp at h
    subst h
    simp [CA.cells]
  | x :: L, k + 1, c, l', h => by
    have ih := flat_set1 L k c l' (by simpa using h)
    rw [List.set_cons_succ, List.flatMap_cons, List.flatMap_cons, ← ih]
    have e1 : (k + 1) * 2 = x.cells.length + k * 2 := by rw [CA.cells_len]; omega
    rw [e1, List.set_append_right _ _ (by omega), show x.cells.length + k * 2 - x.cells.length = k * 2 by omega]
def trimA (s : Int) (c : CA) : CA := {c with sn := noI s c.sn}
/-- a clone has other snapshots, in its own place -/
theorem OA.N.setSn {q : OA} {w w1 : World} {base r k : Nat} {c : CA} {l' : List Int} (h : q.N w base) (hk : q.cl[k]? = some c) (ho : Only (rowOf (.slice c.S 0 0)) w w1) (hown : OwnI w1 base (.slice c.S l'.length c.cs) l'.length l') (hl : ∀ s ∈ l', -9223372036854775808 ≤ s ∧ s ≤ 9223372036854775807) (hr : q.C = some ⟨r, 0, none⟩) :
    OA.N {q with cl := q.cl.set k {c with sn := l'}} (w1.setCell ⟨r, k * 2, none⟩ (.slice c.S l'.length c.cs)) base ∧ Only (r :: rowOf (.slice c.S 0 0)) w (w1.setCell ⟨r, k * 2, none⟩ (.slice c.S l'.length c.cs)) := by
  have hlt := (List.getElem?_eq_some_iff.1 hk).1
  have hcm := List.mem_of_getElem? hk
  have hcS : ∀ x ∈ rowOf (.slice c.S 0 0), ∃ cs, Blk w x 3 cs := fun x hx => ((h.cl c hcm).sU x hx).2.2
  have hkeep : ∀ x t cs, Blk w x t cs → t = 5 ∨ t = 79 → w1.heap[x]? = w.heap[x]? := fun x t cs hb ht => ho.block x hb.lt (fun hm => by
    obtain ⟨cs', hb'⟩ := hcS x hm
    refine hb.ne_ hb' ?_ rfl
    rcases ht with rfl | rfl <;> decide)
  obtain ⟨-, -, crs, hcr⟩ := OA.P.cU h r (by rw [hr]; simp [rowOf, Value.ownBlock])
  have hcr1 : Blk w1 r 79 crs := hcr.of (hkeep r _ _ hcr (.inr rfl))
  have hset : ∀ x t cs, Blk w1 x t cs → t = 5 ∨ t = 3 → (w1.setCell ⟨r, k * 2, none⟩ (.slice c.S l'.length c.cs)).heap[x]? = w1.heap[x]? := fun x t cs hb ht => Below.heap_setCell _ _ _ _ (fun e => by
    refine hb.ne_ hcr1 ?_ e
    rcases ht with rfl | rfl <;> decide)
  have hrow0 := h.row
  rw [List.append_nil, hr] at hrow0
  have hrow1 : OwnC 79 w1 base (.slice (some ⟨r, 0, none⟩) q.cl.length q.cc) q.cl := row_of hrow0 fun x hx => by obtain ⟨cs, hb⟩ := own_ty hrow0 hx; exact hkeep x _ cs hb (.inr rfl)
  have hrow2 := (World.ownsRow.stored hrow1 (k * 2) (.slice c.S l'.length c.cs)).1
  rw [flat_set1 q.cl k c l' hk] at hrow2
  have hD : ∀ c' ∈ q.cl, ∀ x ∈ c'.dR, (w1.setCell ⟨r, k * 2, none⟩ (.slice c.S l'.length c.cs)).heap[x]? = w.heap[x]? := fun c' hc' x hx => by
    obtain ⟨_, _, cs, hb⟩ := (h.cl c' hc').dU x hx
    have e := hkeep x _ cs hb (.inl rfl)
    exact (hset x _ cs (hb.of e) (.inl rfl)).trans e
  have hsR : (q.cl.set k {c with sn := l'}).map CA.sR = q.cl.map CA.sR := by
    rw [List.map_set]
    apply List.ext_getElem?
    intro j
    rw [List.getElem?_set]
    split
    · rename_i e
      subst e
      rw [List.getElem?_map, hk]
      simp [hlt]
      rfl
    · rfl
  have hdR : (q.cl.set k {c with sn := l'}).map CA.dR = q.cl.map CA.dR := by
    rw [List.map_set]
    apply List.ext_getElem?
    intro j
    rw [List.getElem?_set]
    split
    · rename_i e
      subst e
      rw [List.getElem?_map, hk]
      simp [hlt]
      rfl
    · rfl
  have hnew : CA.N {c with sn := l'} (w1.setCell ⟨r, k * 2, none⟩ (.slice c.S l'.length c.cs)) base :=
    ⟨row_of hown fun x hx => by obtain ⟨cs, hb⟩ := own_ty hown hx; exact hset x _ cs hb (.inr rfl), row_of (h.cl c hcm).dt fun x hx => hD c hcm x (by rw [CA.dR, row_slice _ 0 0 c.dt.length c.cd]; exact hx), (h.cl c hcm).ok, hl⟩
  have hold : ∀ j c', q.cl[j]? = some c' → j ≠ k → CA.N c' (w1.setCell ⟨r, k * 2, none⟩ (.slice c.S l'.length c.cs)) base := fun j c' hj hne => by
    have hcm' := List.mem_of_getElem? hj
    refine (h.cl c' hcm').of (fun x hx => ?_) (hD c' hcm')
    obtain ⟨_, hxl, cs, hb⟩ := (h.cl c' hcm').sU x hx
    have e : w1.heap[x]? = w.heap[x]? := ho.block x hxl (fun hm => by
      have hd := h.dS
      unfold Dis at hd
      rw [List.pairwise_iff_getElem] at hd
      have hjl := (List.getElem?_eq_some_iff.1 hj).1
      have ej : q.cl[j] = c' := (List.getElem?_eq_some_iff.1 hj).2
      have ek : q.cl[k] = c := (List.getElem?_eq_some_iff.1 hk).2
      rcases Nat.lt_or_ge j k with hjk | hjk
      · have := hd j k (by simpa using hjl) (by simpa using hlt) hjk
        simp only [List.getElem_map, ej, ek] at this
        exact this x hx hm
      · have := hd k j (by simpa using hlt) (by simpa using hjl) (by omega)
        simp only [List.getElem_map, ej, ek] at this
        exact this x hm hx)
    exact (hset x _ cs (hb.of e) (.inr rfl)).trans e
  refine ⟨⟨row_of h.dt fun x hx => by
    obtain ⟨cs, hb⟩ := own_ty h.dt hx
    have e := hkeep x _ cs hb (.inl rfl)
    exact (hset x _ cs (hb.of e) (.inl rfl)).trans e, h.ok, ?_, fun c' hc' => ?_, h.q1, h.q2, ?_, ?_⟩, ?_⟩
  · rw [List.append_nil]
    unfold OwnC
    simp only [List.length_set]
    rw [hr]
    exact hrow2
  · obtain ⟨j, hj, hjc⟩ := List.mem_iff_getElem.1 hc'
    have hj2 : (q.cl.set k {c with sn := l'})[j]? = some c' := by rw [List.getElem?_eq_getElem hj, hjc]
    rw [List.getElem?_set] at hj2
    split at hj2
    · injection hj2 with hj2
      subst hj2
      exact hnew
    · rename_i hne
      exact hold j c' hj2 (fun e => hne e.symm)
  · show Dis (rowOf (.slice q.D 0 0) :: (q.cl.set k {c with sn := l'}).map CA.dR)
    rw [hdR]
    exact h.dD
  · show Dis ((q.cl.set k {c with sn := l'}).map CA.sR)
    rw [hsR]
    exact h.dS
  · exact (ho.mono (fun x hx => by simp [hx])).setCell (.inl (by simp)) _
theorem trim_vs (s : Int) (cl : List CA) : (fullC (cl.map (trimA s))).map CA.v = trimCl (cl.map CA.v) s := by
  unfold fullC trimCl
  rw [List.map_map]
  induction cl with
  | nil => rfl
  | cons c cl ih =>
    simp only [List.map_cons, Function.comp]
    rw [List.filter_cons, List.filter_cons]
    have e : decide ((trimA s c).sn ≠ []) = decide ((⟨List.filter (fun x => decide (x ≠ s)) (CA.v c).sn, (CA.v c).dt⟩ : ClV).sn ≠ []) := rfl
    rw [e]
    split
    · rw [List.map_cons, ih]; rfl
    · exact ih
theorem trim_step (s : Int) (cl : List CA) (k : Nat) (c : CA) (hk : cl[k]? = some c) : ((cl.take k).map (trimA s) ++ cl.drop k).set k (trimA s c) = (cl.take (k + 1)).map (trimA s) ++ cl.drop (k + 1) := by
  have hl := (List.getElem?_eq_some_iff.1 hk).1
  have h1 : cl.drop k = c :: cl.drop (k + 1) := by rw [List.drop_eq_getElem_cons hl, (List.getElem?_eq_some_iff.1 hk).2]
  have h2 : ((cl.take k).map (trimA s)).length = k := by simp; omega
  rw [h1, List.set_append_right _ _ (by omega), h2, Nat.sub_self, List.set_cons_zero, take_snocI hk, List.map_append, List.append_assoc]
  rfl
/-- memory while clones lose a snapshot -/
structure Trims (w : World) (o q : OA) (s : Int) (g base : Nat) (cl : List CA) (wr : World) : Prop where
  bel : Below w.heap.size w wr
  b1 : Blk wr (w.heap.size + 1) 3 #[.int .i64 s]
  b2 : Blk wr (w.heap.size + 1 + 1) 36 #[.bool false, .slice none 0 0, .int .i64 0, .slice none 0 0]
  g0 : Blk wr g 36 #[.bool q.th, .slice q.D q.dt.length q.cd, .int .i64 q.sq, .slice q.C q.cl.length q.cc]
  own : OA.N {q with cl := cl} wr base
theorem OA.N.keepsub {q : OA} {w w' : World} {base c' : Nat} {C' : Option Addr} {cl' : List CA} (h : q.N w base) (hs : cl'.Sublist q.cl) (ho : Only (rowOf (.slice q.C 0 0)) w w') (hrow : OwnC 79 w' base (.slice C' cl'.length c') cl') : OA.N {q with C := C', cc := c', cl := cl'} w' base := by
  have hkeep : ∀ x t cs, Blk w x t cs → t = 5 ∨ t = 3 → w'.heap[x]? = w.heap[x]? := fun x t cs hb ht => ho.block x hb.lt (fun hm => by
    obtain ⟨_, _, cs', hb'⟩ := OA.P.cU h x hm
    refine hb.ne_ hb' ?_ rfl
    rcases ht with rfl | rfl <;> decide)
  refine ⟨row_of h.dt fun x hx => by obtain ⟨cs, hb⟩ := own_ty h.dt hx; exact hkeep x _ cs hb (.inl rfl), h.ok, by rw [List.append_nil]; exact hrow, fun c hc => ?_, h.q1, h.q2, ?_, ?_⟩
  · have hN := h.cl c (hs.subset hc)
    exact hN.of (fun x hx => by obtain ⟨_, _, cs, hb⟩ := hN.sU x hx; exact hkeep x _ cs hb (.inr rfl)) (fun x hx => by obtain ⟨_, _, cs, hb⟩ := hN.dU x hx; exact hkeep x _ cs hb (.inl rfl))
  · exact List.Pairwise.sublist ((hs.map CA.dR).cons_cons _) h.dD
  · exact List.Pairwise.sublist (hs.map CA.sR) h.dS
set_option maxHeartbeats 8000000 in
theorem snTrim {w : World} (o : OA) (s : Int) (ho : o.R w) (hoS : o.Sm) : Calls Try.prog 36 #[.agg o.cs, .int .i64 s] w (ChTo w (TrR o.v s)) := by
  have HO := Lib.hid (And.intro ho hoS)
  obtain ⟨w0, hw0⟩ : ∃ w0, w0 = ((w.alloc (.cells o.cs 36)).alloc (.cells #[.int .i64 s] 3)).alloc (.cells #[.bool false, .slice none 0 0, .int .i64 0, .slice none 0 0] 36) := ⟨_, rfl⟩
  have hbel : Below w.heap.size w w0 := by rw [hw0]; exact (((Below.refl _ w).alloc (Nat.le_refl _) _).alloc (by simp) _).alloc (by simp; omega) _
  have b0 : Blk w0 w.heap.size 36 o.cs := by rw [hw0]; exact ((Blk.new w _ _).alloc _).alloc _
  have b1 : Blk w0 (w.heap.size + 1) 3 #[.int .i64 s] := by
    have := (Blk.new (w.alloc (.cells o.cs 36)) 3 #[.int .i64 s]).alloc (.cells #[.bool false, .slice none 0 0, .int .i64 0, .slice none 0 0] 36)
    rw [hw0]
    simpa using this
  have b2 : Blk w0 (w.heap.size + 1 + 1) 36 #[.bool false, .slice none 0 0, .int .i64 0, .slice none 0 0] := by
    have := Blk.new ((w.alloc (.cells o.cs 36)).alloc (.cells #[.int .i64 s] 3)) 36 #[.bool false, .slice none 0 0, .int .i64 0, .slice none 0 0]
    rw [hw0]
    simpa using this
  have HW := Lib.hid (And.intro hbel (And.intro b0 (And.intro b1 b2)))
  have HWE := Lib.hid hw0
  clear ho hoS hbel b0 b1 b2 hw0
  have HGD := Lib.hid (sgood_any o (HO.out.1.since HW.out.1))
  have HZERO : Hid (∀ (k : Nat) (w5 w6 : World), TrR o.v s OV.zero k → Below w.heap.size w w5 → Only [w.heap.size + 1 + 1] w5 w6 → ChTo w (TrR o.v s) (.returned (.tuple #[.agg #[.bool false, .slice none 0 0, .int .i64 0, .slice none 0 0], errV k])) w6) := Lib.hid fun k w5 w6 hr hb5 ho6 =>
    ⟨OA.zero, k, rfl, hr, OA.zero_N _ _, OA.zero_Sm, hb5.trans (ho6.below (B := w.heap.size) (fun k hk => by simp at hk; omega) hb5.size)⟩
  unfold OA.cs at HWE
  have hcs : o.cs = #[.bool o.th, .slice o.D o.dt.length o.cd, .int .i64 o.sq, .slice o.C o.cl.length o.cc] := rfl
  rw [hcs] at HW HGD ⊢
  clear hcs
  go_enter Try.func36, Try.ntmps36
  go_upto_region 1 with (fail)
  rw [← HWE.out]
  have K0 := HW.out.2.1
  go_wp2_with (have _h := K0; refine wpList_loadq rfl 36 (.tmp 2) rfl w.heap.size [.bool o.th, .slice o.D o.dt.length o.cd, .int .i64 o.sq, .slice o.C o.cl.length o.cc] _ rfl K0 Try.underlying36 rfl (by kernel_rfl) ?_; clear _h K0)
  refine HGD.out.mono ?_
  rintro e w1 ⟨bg, rfl, hg, hb1⟩
  have HA1 : Hid (Below w.heap.size w w1 ∧ Blk w1 w.heap.size 36 #[.bool o.th, .slice o.D o.dt.length o.cd, .int .i64 o.sq, .slice o.C o.cl.length o.cc] ∧ Blk w1 (w.heap.size + 1) 3 #[.int .i64 s] ∧ Blk w1 (w.heap.size + 1 + 1) 36 #[.bool false, .slice none 0 0, .int .i64 0, .slice none 0 0]) := Lib.hid ⟨HW.out.1.trans (hb1.mono HW.out.1.size), HW.out.2.1.of (hb1.block _ HW.out.2.1.lt), HW.out.2.2.1.of (hb1.block _ HW.out.2.2.1.lt), HW.out.2.2.2.of (hb1.block _ HW.out.2.2.2.lt)⟩
  have HG := Lib.hid hg
  clear hb1 hg HGD HWE HW
  cases bg with
  | false =>
    have K2 := HA1.out.2.2.2
    go_wp2_with (have _h := K2; refine wpList_storeq rfl 36 (.tmp 4) (.tmp 12) rfl (w.heap.size + 1 + 1) #[.bool false, .slice none 0 0, .int .i64 0, .slice none 0 0] [.bool false, .slice none 0 0, .int .i64 0, .slice none 0 0] rfl rfl K2 rfl (by kernel_rfl) zero4_one ?_; clear _h K2; intro w9 K9 ho9 hs9)
    refine bodyPost_ret (res_cell_tmp rfl _ _ (w.heap.size + 1 + 1) [.bool false, .slice none 0 0, .int .i64 0, .slice none 0 0] _ _ rfl rfl K9 Try.underlying36 rfl (by kernel_rfl)) rfl ?_
    exact HZERO.out 2 w1 w9 (.bad (fun g => by have := HG.out.2 g; cases this)) HA1.out.1 ho9
  | true =>
  have HGO := Lib.hid (HG.out.1 rfl)
  clear HG
  have q1 : w1.cell? ⟨w.heap.size + 1, 0, none⟩ = some (.int .i64 s) := HA1.out.2.2.1.cell 0
  by_cases hs1 : s < 1
  · have d1 : decide (s < 1) = true := decide_eq_true hs1
    have K2 := HA1.out.2.2.2
    go_wp2_with (have _h := K2; refine wpList_storeq rfl 36 (.tmp 4) (.tmp 16) rfl (w.heap.size + 1 + 1) #[.bool false, .slice none 0 0, .int .i64 0, .slice none 0 0] [.bool false, .slice none 0 0, .int .i64 0, .slice none 0 0] rfl rfl K2 rfl (by kernel_rfl) zero4_one ?_; clear _h K2; intro w9 K9 ho9 hs9)
    refine bodyPost_ret (res_cell_tmp rfl _ _ (w.heap.size + 1 + 1) [.bool false, .slice none 0 0, .int .i64 0, .slice none 0 0] _ _ rfl rfl K9 Try.underlying36 rfl (by kernel_rfl)) rfl ?_
    exact HZERO.out 1 w1 w9 (.rng HGO.out hs1) HA1.out.1 ho9
  have d1 : decide (s < 1) = false := decide_eq_false hs1
  have HLK := Lib.hid (like_any o HA1.out.2.1 (HO.out.1.since HA1.out.1) HO.out.2)
  go_wp2_with fail
  refine HLK.out.mono ?_
  rintro e w4 ⟨q, hvq, hsq, hNq, rfl, hb4⟩
  obtain ⟨w5, hw5⟩ : ∃ w5, w5 = w4.alloc (.cells q.cs 36) := ⟨_, rfl⟩
  have hb5 : Below w4.heap.size w4 w5 := by rw [hw5]; exact below_alloc w4 _
  have hb15 : Below w1.heap.size w1 w5 := hb4.trans (hb5.mono hb4.size)
  have hTR : Trims w o q s w4.heap.size w1.heap.size q.cl w5 := ⟨HA1.out.1.trans (hb15.mono HA1.out.1.size), HA1.out.2.2.1.of (hb15.block _ HA1.out.2.2.1.lt), HA1.out.2.2.2.of (hb15.block _ HA1.out.2.2.2.lt), by rw [hw5]; exact Blk.new w4 _ _, OA.N.below hNq hb5⟩
  have HTR := Lib.hid hTR
  have HQ := Lib.hid (And.intro hvq hsq)
  have HW5 := Lib.hid hw5
  have HZ : Hid (w.heap.size + 3 ≤ w1.heap.size ∧ w1.heap.size ≤ w4.heap.size) := Lib.hid ⟨by have := HA1.out.2.2.2.lt; omega, hb4.size⟩
  have hqcs : q.cs = #[.bool q.th, .slice q.D q.dt.length q.cd, .int .i64 q.sq, .slice q.C q.cl.length q.cc] := rfl
  unfold OA.cs at HW5
  rw [hqcs]
  obtain ⟨g, hgg⟩ : ∃ g, g = w4.heap.size := ⟨_, rfl⟩
  have HGG := Lib.hid hgg
  clear hvq hsq hNq hb4 hw5 hb5 hb15 hTR hqcs HLK q1 d1
  rw [← hgg] at HTR
  go_upto_region 6 with (fail)
  rw [← HW5.out, ← hgg]
  clear hgg HW5
  have c3 : w5.cell? ⟨g, 3, none⟩ = some (.slice q.C q.cl.length q.cc) := HTR.out.g0.cell 3
  have hcl1 := HQ.out.2.cn
  go_wp2
  go_loopw [22] (fun i wr => ∃ k : Nat, k ≤ q.cl.length ∧ i = .int .i64 k ∧ Trims w o q s g w1.heap.size ((q.cl.take k).map (trimA s) ++ q.cl.drop k) wr) (fun i _ => q.cl.length - (intOf i).toNat)
  case atStart => exact ⟨0, by omega, rfl, by simpa using HTR.out⟩
  case round =>
    obtain ⟨k, hk, rfl, hT⟩ := hrel
    obtain ⟨wo, hwo⟩ : ∃ wo, wo = wr := ⟨_, rfl⟩
    subst hwo
    have HT := Lib.hid hT
    clear hT c3
    have c3 : wo.cell? ⟨g, 3, none⟩ = some (.slice q.C q.cl.length q.cc) := HT.out.g0.cell 3
    by_cases hlt : k < q.cl.length
    · have hwk : IntKind.i64.wrap ((k : Int) + 1) = (k : Int) + 1 := by rw [IntKind.wrap_i64]; omega
      obtain ⟨c, hck⟩ : ∃ c, q.cl[k]? = some c := ⟨_, List.getElem?_eq_getElem hlt⟩
      have hlk : ((q.cl.take k).map (trimA s)).length = k := by simp; omega
      have hck2 : ((q.cl.take k).map (trimA s) ++ q.cl.drop k)[k]? = some c := by
        rw [List.getElem?_append_right (by omega), hlk, Nat.sub_self, List.getElem?_drop, Nat.add_zero]
        exact hck
      have hlen : ((q.cl.take k).map (trimA s) ++ q.cl.drop k).length = q.cl.length := by simp; omega
      have hrow := HT.out.own.row
      rw [List.append_nil] at hrow
      obtain ⟨r, hr⟩ : ∃ r, q.C = some ⟨r, 0, none⟩ := by
        obtain ⟨-, -, -, h | ⟨b, h, -⟩⟩ := own_shape hrow
        · exfalso
          rcases hrow.2 with ⟨_, h0⟩ | ⟨g2, cap2, cur2, e2, _⟩
          · rw [hlen] at h0; omega
          · injection e2 with e2
            simp only at h
            rw [h] at e2
            cases e2
        · exact ⟨b, h⟩
      have hRN := OA.N.R HT.out.own
      obtain ⟨ad, had, -, hcc⟩ := hRN.get hck2
      simp only at had
      rw [hr] at had
      injection had with had
      subst had
      have cS : wo.cell? ⟨r, k * 2, none⟩ = some (.slice c.S c.sn.length c.cs) := by
        have := hcc 0 _ rfl
        rw [add_zero_off, add_zero_off'] at this
        exact this
      have hcN := HT.out.own.cl c (List.mem_of_getElem? hck2)
      have hcs2 := HQ.out.2.cl c (List.mem_of_getElem? hck)
      have HDL := Lib.hid (delint_any hcN.sn HT.out.b1 (fun hm => by
        have h1 := (hcN.sU _ hm).1
        have h2 := HZ.out.1
        omega) (by omega))
      unfold trimV at HDL
      have HCN := Lib.hid hcN
      have HCK := Lib.hid (And.intro hck hck2)
      have HR := Lib.hid hr
      have hcap := hRN.c2
      simp only at hcap
      rw [hlen] at hcap
      have hrl : r < wo.heap.size := by
        obtain ⟨_, h2, _⟩ := OA.P.cU HT.out.own r (by rw [show ({q with cl := (q.cl.take k).map (trimA s) ++ q.cl.drop k} : OA).C = q.C from rfl, hr]; simp [rowOf, Value.ownBlock])
        exact h2
      rw [hr] at c3
      clear hr
      clear hck hck2 hrow hRN hcc hcN hlk hlen hcs2
      go_wp2_with fail
      refine HDL.out.mono ?_
      rintro e w6 ⟨rfl, hown6, ho6⟩
      have hst := OA.N.setSn HT.out.own HCK.out.2 ho6 hown6 (fun x hx => HCN.out.i1 x (List.mem_filter.1 hx).1) HR.out
      obtain ⟨-, -, crs, hcr⟩ := OA.P.cU HT.out.own r (by rw [show ({q with cl := (q.cl.take k).map (trimA s) ++ q.cl.drop k} : OA).C = q.C from rfl, HR.out]; simp [rowOf, Value.ownBlock])
      have hcr6 : Blk w6 r 79 crs := hcr.of (ho6.block r hrl (fun hm => by obtain ⟨_, _, cs, hb⟩ := HCN.out.sU r hm; exact hcr.ne_ hb (by decide) rfl))
      have cS6 : w6.cell? ⟨r, k * 2, none⟩ = some (.slice c.S c.sn.length c.cs) := by
        rw [hcr6.cell, ← hcr.cell]
        exact cS
      have fS6 : w6.frozen? ⟨r, k * 2, none⟩ = false := hcr6.frozen _
      have HNEW : Hid (Trims w o q s g w1.heap.size ((q.cl.take (k + 1)).map (trimA s) ++ q.cl.drop (k + 1)) (w6.setCell ⟨r, k * 2, none⟩ (.slice c.S (noI s c.sn).length c.cs))) := Lib.hid (by
        have hF : ∀ x ∈ r :: rowOf (.slice c.S 0 0), w1.heap.size ≤ x ∧ ∃ t cs, Blk wo x t cs ∧ t ≠ 36 := fun x hx => by
          rcases List.mem_cons.1 hx with e | hx
          · subst e
            exact ⟨(OA.P.cU HT.out.own x (by rw [show ({q with cl := (q.cl.take k).map (trimA s) ++ q.cl.drop k} : OA).C = q.C from rfl, HR.out]; simp [rowOf, Value.ownBlock])).1, _, _, hcr, by decide⟩
          · obtain ⟨h1, _, cs, hb⟩ := HCN.out.sU x hx
            exact ⟨h1, _, cs, hb, by decide⟩
        have hz := HZ.out.1
        refine ⟨HT.out.bel.trans (hst.2.below (B := w.heap.size) (fun x hx => by have := (hF x hx).1; omega) HT.out.bel.size), HT.out.b1.only hst.2 (fun hm => by have := (hF _ hm).1; omega), HT.out.b2.only hst.2 (fun hm => by have := (hF _ hm).1; omega), HT.out.g0.only hst.2 (fun hm => ?_), ?_⟩
        · obtain ⟨_, t, cs, hb, hne⟩ := hF _ hm
          exact hb.ne_ HT.out.g0 hne rfl
        · have h1 := hst.1
          have h2 : ({c with sn := noI s c.sn} : CA) = trimA s c := rfl
          rw [h2] at h1
          simp only at h1
          rw [trim_step s q.cl k c HCK.out.1] at h1
          exact h1)
      clear hst hcr hcr6 hown6 ho6 HDL cS hrl hcap
      go_wp2
      go_roundw
      case rel => exact ⟨k + 1, by omega, by go_num, HNEW.out⟩
      case measure => simp [intOf]; omega
    · obtain rfl : k = q.cl.length := by omega
      have hd0 : (q.cl.take q.cl.length).map (trimA s) ++ q.cl.drop q.cl.length = q.cl.map (trimA s) := by rw [List.take_of_length_le (Nat.le_refl _), List.drop_length, List.append_nil]
      have hTT := HT.out
      rw [hd0] at hTT
      have hrow := hTT.own.row
      rw [List.append_nil] at hrow
      have hml : (q.cl.map (trimA s)).length = q.cl.length := by simp
      have HDC := Lib.hid (delcl_any hrow (by simp; omega) (fun x hx => by
        obtain ⟨c, hc, rfl⟩ := List.mem_map.1 hx
        have h1 := (HQ.out.2.cl c hc).1
        have h2 : (noI s c.sn).length ≤ c.sn.length := List.length_filter_le _ _
        show (noI s c.sn).length ≤ 1000000
        omega))
      simp only at HDC
      rw [hml] at HDC
      unfold emptV at HDC
      have HTT := Lib.hid hTT
      clear hd0 hTT hrow hml HT HTR
      go_wp2_with fail
      refine HDC.out.mono ?_
      rintro e w7 ⟨rfl, hrow7, ho7⟩
      have hFC : ∀ x ∈ rowOf (.slice q.C 0 0), w1.heap.size ≤ x ∧ ∃ cs, Blk wo x 79 cs := fun x hx => by
        obtain ⟨h1, _, h3⟩ := OA.P.cU HTT.out.own x hx
        exact ⟨h1, h3⟩
      have hz := HZ.out.1
      have hN7 := OA.N.keepsub (cl' := fullC (q.cl.map (trimA s))) HTT.out.own (List.filter_sublist) ho7 hrow7
      have K7 : Blk w7 g 36 #[.bool q.th, .slice q.D q.dt.length q.cd, .int .i64 q.sq, .slice q.C q.cl.length q.cc] := HTT.out.g0.only ho7 (fun hm => by obtain ⟨_, cs, hb⟩ := hFC _ hm; exact hb.ne_ HTT.out.g0 (by decide) rfl)
      have b27 : Blk w7 (w.heap.size + 1 + 1) 36 #[.bool false, .slice none 0 0, .int .i64 0, .slice none 0 0] := HTT.out.b2.only ho7 (fun hm => by have := (hFC _ hm).1; omega)
      have hbel7 : Below w.heap.size w w7 := HTT.out.bel.trans (ho7.below (B := w.heap.size) (fun x hx => by have := (hFC x hx).1; omega) HTT.out.bel.size)
      have HK7 := Lib.hid K7
      have HN7 := Lib.hid (And.intro hN7 (And.intro b27 hbel7))
      have hg3 : g ≠ w.heap.size + 1 + 1 := by have := HZ.out.2; have := HGG.out; omega
      clear hN7 hrow7 ho7 b27 hbel7 hFC HDC
      obtain ⟨cl2, hcl2⟩ : ∃ cl2, cl2 = fullC (q.cl.map (trimA s)) := ⟨_, rfl⟩
      have HCL := Lib.hid hcl2
      rw [← hcl2]
      clear hcl2
      go_upto_region 13 with (have _h := K7; refine wpList_setq rfl 34 (.tmp 42) (.tmp 41) rfl g 3 36 _ (.slice q.C cl2.length q.cc) rfl rfl K7 (by simp) (by kernel_rfl) rfl ?_; clear _h K7; intro w8 K8 ho8 hs8)
      have K8' : Blk w8 g 36 [Value.bool q.th, .slice q.D q.dt.length q.cd, .int .i64 q.sq, .slice q.C cl2.length q.cc].toArray := by simpa using K8
      have b28 : Blk w8 (w.heap.size + 1 + 1) 36 #[.bool false, .slice none 0 0, .int .i64 0, .slice none 0 0] := HN7.out.2.1.only ho8 (fun hm => by simp at hm; exact hg3 hm.symm)
      have HO8 := Lib.hid (And.intro ho8 b28)
      clear K8 ho8 hs8 b28
      go_wp2_with (first
        | (have _h := K8'; refine wpList_loadq rfl 36 (.tmp 6) rfl g [.bool q.th, .slice q.D q.dt.length q.cd, .int .i64 q.sq, .slice q.C cl2.length q.cc] _ rfl K8' Try.underlying36 rfl (by kernel_rfl) ?_; clear _h)
        | (refine wpList_storeq rfl 36 (.tmp 4) (.tmp 43) rfl (w.heap.size + 1 + 1) #[.bool false, .slice none 0 0, .int .i64 0, .slice none 0 0] [.bool q.th, .slice q.D q.dt.length q.cd, .int .i64 q.sq, .slice q.C cl2.length q.cc] rfl rfl HO8.out.2 rfl (by kernel_rfl) (fun v hv => by simp at hv; rcases hv with rfl | rfl | rfl | rfl <;> rfl) ?_; intro w9 K9 ho9 hs9))
      refine bodyPost_ret (res_cell_tmp rfl _ _ (w.heap.size + 1 + 1) [.bool q.th, .slice q.D q.dt.length q.cd, .int .i64 q.sq, .slice q.C cl2.length q.cc] _ _ rfl rfl K9 Try.underlying36 rfl (by kernel_rfl)) rfl ?_
      refine ⟨⟨q.th, q.dt, q.D, q.cd, q.sq, q.C, q.cc, cl2⟩, 0, rfl, ?_, ?_, ?_, ?_⟩
      · have e : OA.v ⟨q.th, q.dt, q.D, q.cd, q.sq, q.C, q.cc, cl2⟩ = trimO o.v s := by
          have e1 : cl2.map CA.v = trimCl q.vs s := by rw [HCL.out]; exact trim_vs s q.cl
          rw [← HQ.out.1]
          show OV.mk q.th q.dt q.sq (cl2.map CA.v) = OV.mk q.th q.dt q.sq (trimCl q.vs s)
          rw [e1]
        rw [e]
        exact .ok HGO.out (by omega)
      · have hN := HN7.out.1
        rw [← HCL.out] at hN
        have hN8 : OA.N ⟨q.th, q.dt, q.D, q.cd, q.sq, q.C, q.cc, cl2⟩ w8 w1.heap.size := OA.P.typed hN fun k t cs hb ht => HO8.out.1.block k hb.lt (fun hm => by
          simp at hm
          subst hm
          refine hb.ne_ HK7.out ?_ rfl
          rcases ht with rfl | rfl | rfl <;> decide)
        have hz1 : w.heap.size ≤ w1.heap.size := by omega
        exact OA.P.weaken (OA.P.typed hN8 fun k t cs hb ht => ho9.block k hb.lt (fun hm => by
          simp at hm
          subst hm
          refine hb.ne_ HO8.out.2 ?_ rfl
          rcases ht with rfl | rfl | rfl <;> decide)) hz1
      · have e : cl2.length ≤ q.cl.length := by rw [HCL.out]; refine Nat.le_trans (List.length_filter_le _ _) (by simp)
        refine ⟨HQ.out.2.dt, by show cl2.length ≤ 1000; omega, fun c hc => ?_⟩
        have hc' : c ∈ fullC (q.cl.map (trimA s)) := by rw [← HCL.out]; exact hc
        obtain ⟨c0, hc0, rfl⟩ := List.mem_map.1 (List.mem_filter.1 hc').1
        have h1 := HQ.out.2.cl c0 hc0
        have h2 : (noI s c0.sn).length ≤ c0.sn.length := List.length_filter_le _ _
        exact ⟨by show (noI s c0.sn).length ≤ 10000; omega, h1.2⟩
      · have h8 := HO8.out.1.belowB (B := w.heap.size) (fun k hk => by simp at hk; have := HZ.out.2; have := HGG.out; omega) HN7.out.2.2.size
        exact (HN7.out.2.2.trans h8).trans (ho9.below (B := w.heap.size) (fun k hk => by simp at hk; omega) (by have := h8.size; have := HN7.out.2.2.size; omega))
end Go.Proofs.Ytjepfeagbiceoaa
