/-
  The document's Good. Conditions: the object reads as it is said to, and is no larger than what is looked at.
-/
import Derived.Test.YtjepfeagbiceoaaQy
import Derived.BigQuiet
namespace Go.Proofs.Ytjepfeagbiceoaa
open Go.RowKit Go.BigFrame
set_option linter.unusedSimpArgs false
set_option linter.unusedVariables false
set_option maxRecDepth 100000
theorem good_steps {o : OV} (g : Good o) : ∀ (j : Nat) (x y : Int), (0 :: snAll o.cl)[j]? = some x → (0 :: snAll o.cl)[j + 1]? = some y → x < y ∧ y ≤ o.sq := by
  intro j x y hx hy
  rw [List.getElem?_cons_succ] at hy
  have h1 := g.lim y (List.mem_of_getElem? hy)
  refine ⟨?_, h1.2⟩
  cases j with
  | zero =>
    rw [List.getElem?_cons_zero] at hx
    injection hx with hx
    omega
  | succ j =>
    rw [List.getElem?_cons_succ] at hx
    have hu := g.up
    rw [List.pairwise_iff_getElem] at hu
    obtain ⟨k1, e1⟩ := List.getElem?_eq_some_iff.1 hx
    obtain ⟨k2, e2⟩ := List.getElem?_eq_some_iff.1 hy
    have := hu j (j + 1) k1 k2 (by omega)
    rwa [e1, e2] at this
theorem steps_good {q : Int} : ∀ (L : List Int) (a : Int), a ≤ q → (∀ (j : Nat) (x y : Int), (a :: L)[j]? = some x → (a :: L)[j + 1]? = some y → x < y ∧ y ≤ q) → riseB a L = true ∧ topI a L ≤ q
  | [], a, ha, _ => ⟨rfl, ha⟩
  | s :: L, a, ha, h => by
    have h0 := h 0 a s rfl rfl
    have ih := steps_good L s h0.2 (fun j x y hx hy => h (j + 1) x y hx hy)
    rw [riseB, Bool.and_eq_true, decide_eq_true_iff, topI]
    exact ⟨⟨h0.1, ih.1⟩, ih.2⟩
theorem snAll_snoc {cl : List CA} {k : Nat} {c : CA} (h : cl[k]? = some c) : snAll ((cl.take (k + 1)).map CA.v) = snAll ((cl.take k).map CA.v) ++ c.sn := by
  rw [take_snocI h, List.map_append, snAll, snAll, List.flatMap_append]
  simp [CA.v]
theorem snAll_len (cl : List CA) (h : ∀ c ∈ cl, c.sn.length ≤ 10000) : (snAll (cl.map CA.v)).length ≤ 10000 * cl.length := by
  induction cl with
  | nil => simp [snAll]
  | cons c cl ih =>
    have h1 := h c (by simp)
    have h2 := ih (fun c hc => h c (by simp [hc]))
    rw [List.map_cons, snAll, List.flatMap_cons, List.length_append, List.length_cons]
    simp only [snAll] at h2
    simp only [CA.v] at h2 ⊢
    omega
set_option maxHeartbeats 8000000 in
theorem rgood_any {w : World} (o : OA) (h : o.R w) (hS : o.Sm) : Calls Try.prog 22 #[.agg o.cs] w (GoodTo w o.v) := by
  obtain ⟨w0, hw0⟩ : ∃ w0, w0 = w.alloc (.cells o.cs 25) := ⟨_, rfl⟩
  have hb0 : Below w.heap.size w w0 := by rw [hw0]; exact below_alloc w _
  have hz0 : w0.heap.size = w.heap.size + 1 := by rw [hw0]; simp
  have K0 : Blk w0 w.heap.size 25 o.cs := by rw [hw0]; exact Blk.new w _ _
  have x0 : w0.cell? ⟨w.heap.size, 0, none⟩ = some (.bool o.th) := K0.cell 0
  have x1 : w0.cell? ⟨w.heap.size, 1, none⟩ = some (.slice o.D o.dt.length o.cd) := K0.cell 1
  have x2 : w0.cell? ⟨w.heap.size, 2, none⟩ = some (.int .i64 o.sq) := K0.cell 2
  have x3 : w0.cell? ⟨w.heap.size, 3, none⟩ = some (.slice o.C o.cl.length o.cc) := K0.cell 3
  have H := Lib.hid (And.intro hb0 (And.intro K0 (h.since hb0)))
  have HS := Lib.hid hS
  have hcn := hS.cn
  have hdn := hS.dt
  have HQ := Lib.hid (And.intro h.q1 h.q2)
  have HWE := Lib.hid hw0
  have hcs : o.cs = #[.bool o.th, .slice o.D o.dt.length o.cd, .int .i64 o.sq, .slice o.C o.cl.length o.cc] := rfl
  have HV : Hid (o.v = ⟨o.th, o.dt, o.sq, o.cl.map CA.v⟩) := Lib.hid rfl
  rw [hcs] at HWE ⊢
  clear h hS hw0 hb0 K0 hcs
  obtain ⟨nd, hnd⟩ : ∃ nd, nd = o.dt.length := ⟨_, rfl⟩
  have HND := Lib.hid hnd
  rw [← hnd] at HWE x1 hdn ⊢
  obtain ⟨th, hth⟩ : ∃ th, th = o.th := ⟨_, rfl⟩
  have HTH := Lib.hid hth
  rw [← hth] at HWE x0 ⊢
  clear hnd hth
  by_cases n1 : (256 : Int) < (nd : Int)
  · have HN : Hid (¬ Good o.v) := Lib.hid fun g => by have h1 := g.dt; rw [HV.out] at h1; have := HND.out; simp only at h1; omega
    have e1 : decide ((256 : Int) < (nd : Int)) = true := decide_eq_true n1
    go_enter Try.func22, Try.ntmps22
    go_upto_region 1 with (fail)
    rw [← HWE.out]
    clear HWE
    go_wp2
    go_ret
    exact GoodTo.no HN.out H.out.1
  have e1 : decide ((256 : Int) < (nd : Int)) = false := decide_eq_false n1
  by_cases n2 : th = false ∧ 0 < nd
  · have HN : Hid (¬ Good o.v) := Lib.hid fun g => by
      have h1 := g.th
      rw [HV.out] at h1
      have h2 := h1 (by simp only; rw [← HTH.out]; exact n2.1)
      simp only at h2
      have h3 := HND.out
      rw [h2] at h3
      simp at h3
      omega
    obtain ⟨rfl, n2⟩ := n2
    have e2 : decide ((0 : Int) < (nd : Int)) = true := decide_eq_true (by omega)
    have e2n : decide (0 < nd) = true := decide_eq_true n2
    go_enter Try.func22, Try.ntmps22
    go_upto_region 1 with (fail)
    rw [← HWE.out]
    clear HWE
    go_wp2
    go_ret
    exact GoodTo.no HN.out H.out.1
  have e2 : th = true ∨ (th = false ∧ decide ((0 : Int) < (nd : Int)) = false ∧ decide (0 < nd) = false) := by
    cases th with
    | true => exact .inl rfl
    | false =>
      have e3z : nd = 0 := by rcases Nat.eq_zero_or_pos nd with h | h; exact h; exact absurd ⟨rfl, by omega⟩ n2
      exact .inr ⟨rfl, decide_eq_false (by omega), decide_eq_false (by omega)⟩
  have HT : Hid (o.th = false → o.dt = []) := Lib.hid fun ht => by
    refine List.eq_nil_of_length_eq_zero ?_
    rw [← HND.out]
    rcases Nat.eq_zero_or_pos nd with h | h
    · exact h
    · exact absurd ⟨by rw [HTH.out]; exact ht, h⟩ n2
  have HD : Hid (o.dt.length ≤ 256) := Lib.hid (by rw [← HND.out]; omega)
  clear n1 n2
  by_cases n3 : o.sq < 0
  · have HN : Hid (¬ Good o.v) := Lib.hid fun g => by have h1 := g.sq; rw [HV.out] at h1; simp only at h1; omega
    have e3 : decide (o.sq < 0) = true := decide_eq_true n3
    rcases e2 with rfl | ⟨rfl, e21, e22⟩
    all_goals
      go_enter Try.func22, Try.ntmps22
      go_upto_region 1 with (fail)
      rw [← HWE.out]
      clear HWE
      go_wp2
      go_ret
      exact GoodTo.no HN.out H.out.1
  have e3 : decide (o.sq < 0) = false := decide_eq_false n3
  by_cases n4 : (16 : Int) < (o.cl.length : Int)
  · have HN : Hid (¬ Good o.v) := Lib.hid fun g => by have h1 := g.cn; rw [HV.out] at h1; simp only [List.length_map] at h1; omega
    have e4 : decide ((16 : Int) < (o.cl.length : Int)) = true := decide_eq_true n4
    rcases e2 with rfl | ⟨rfl, e21, e22⟩
    all_goals
      go_enter Try.func22, Try.ntmps22
      go_upto_region 1 with (fail)
      rw [← HWE.out]
      clear HWE
      go_wp2
      go_ret
      exact GoodTo.no HN.out H.out.1
  have e4 : decide ((16 : Int) < (o.cl.length : Int)) = false := decide_eq_false n4
  clear hdn
  have HZ0 := Lib.hid hz0
  clear hz0
  rcases e2 with rfl | ⟨rfl, e21, e22⟩
  all_goals
    go_enter Try.func22, Try.ntmps22
    go_upto_region 1 with (fail)
    rw [← HWE.out]
    clear HWE
    go_wp2
    generalize hw1 : w0.alloc (.cells #[.int .i64 0] 3) = w1 at *
    have HW1 : Hid (OwnI w1 w0.heap.size (.slice (some ⟨w0.heap.size, 0, none⟩) 1 1) 1 [0] ∧ Below w0.heap.size w0 w1) := Lib.hid (by
      rw [← hw1]
      exact ⟨OwnI.of_blk (l := [0]) (Blk.new w0 3 (i64s [0]).toArray) rfl (Nat.le_refl _) (by omega), below_alloc w0 _⟩)
    clear hw1 x0 x1
    go_loopw [3, 4] (fun v i wr => ∃ (k : Nat) (L : List Int), k ≤ o.cl.length ∧ i = .int .i64 k ∧ L = 0 :: snAll ((o.cl.take k).map CA.v) ∧ (∀ c ∈ o.cl.take k, ClG c.v) ∧ OwnI wr w0.heap.size v L.length L ∧ Below w0.heap.size w0 wr) (fun _ i _ => o.cl.length - (intOf i).toNat)
    case atStart => exact ⟨0, _, by omega, rfl, rfl, by simp, by simpa [snAll] using HW1.out.1, HW1.out.2⟩
    case round =>
      obtain ⟨k, L, hk, rfl, hL, hcg, ho, hbl⟩ := hrel
      have HI := Lib.hid (And.intro hL (And.intro hcg (And.intro ho hbl)))
      have HB := Lib.hid (H.out.1.trans (hbl.mono (by have := HZ0.out; omega)))
      have hwk : IntKind.i64.wrap ((k : Int) + 1) = (k : Int) + 1 := by rw [IntKind.wrap_i64]; omega
      have x2' : wr.cell? ⟨w.heap.size, 2, none⟩ = some (.int .i64 o.sq) := (hbl.cell (p := ⟨w.heap.size, 2, none⟩) (by have := HZ0.out; show w.heap.size < _; omega)).trans x2
      have x3' : wr.cell? ⟨w.heap.size, 3, none⟩ = some (.slice o.C o.cl.length o.cc) := (hbl.cell (p := ⟨w.heap.size, 3, none⟩) (by have := HZ0.out; show w.heap.size < _; omega)).trans x3
      have hRr := H.out.2.2.since hbl
      clear hL hcg ho hbl
      by_cases hlt : k < o.cl.length
      · obtain ⟨c, hck⟩ : ∃ c, o.cl[k]? = some c := ⟨_, List.getElem?_eq_getElem hlt⟩
        obtain ⟨ad, had, hl, hc⟩ := hRr.get hck
        have hcR := hRr.cl c (List.mem_of_getElem? hck)
        have hsm := HS.out.cl c (List.mem_of_getElem? hck)
        have hc0 := hc 0 _ rfl
        have c0' : wr.cell? (ad.add (k * 2)) = some (.slice c.S c.sn.length c.cs) := by simpa [Addr.add] using hc0
        have hc1 := hc 1 _ rfl
        have c1' : wr.cell? ⟨(ad.add (k * 2)).block, (ad.add (k * 2)).off + 1, none⟩ = some (.slice c.D c.dt.length c.cd) := by simpa [Addr.add] using hc1
        have HCK := Lib.hid (And.intro hck (And.intro hcR hsm))
        have hsm1 := hsm.1
        have hsm2 := hsm.2
        generalize o.C = oC at *
        subst had
        clear hck hcR hc hsm hRr
        by_cases m1 : c.sn.length = 0
        · have f1 : ((c.sn.length : Int) == 0) = true := by rw [m1]; rfl
          have HN : Hid (¬ Good o.v) := Lib.hid fun g => by
            rw [HV.out] at g
            exact (g.cl c.v (List.mem_map.2 ⟨c, List.mem_of_getElem? HCK.out.1, rfl⟩)).ne (List.eq_nil_of_length_eq_zero m1)
          clear m1
          go_wp2
          go_ret
          exact GoodTo.no HN.out HB.out
        have f1 : ((c.sn.length : Int) == 0) = false := beq_eq_false_iff_ne.2 (by omega)
        by_cases m2 : (256 : Int) < (c.dt.length : Int)
        · have f2 : decide ((256 : Int) < (c.dt.length : Int)) = true := decide_eq_true m2
          have HN : Hid (¬ Good o.v) := Lib.hid fun g => by
            rw [HV.out] at g
            have := (g.cl c.v (List.mem_map.2 ⟨c, List.mem_of_getElem? HCK.out.1, rfl⟩)).dt
            simp only [CA.v] at this
            omega
          go_wp2
          go_ret
          exact GoodTo.no HN.out HB.out
        have f2 : decide ((256 : Int) < (c.dt.length : Int)) = false := decide_eq_false m2
        have HCG : Hid (ClG c.v) := Lib.hid ⟨fun e => m1 (by simp only [CA.v] at e; rw [e]; rfl), by simp only [CA.v]; omega⟩
        have HLL : Hid (L.length ≤ 170000) := Lib.hid (by
          rw [HI.out.1, List.length_cons]
          have h1 := snAll_len (o.cl.take k) (fun c hc => (HS.out.cl c (List.mem_of_mem_take hc)).1)
          have h2 : (o.cl.take k).length ≤ 16 := by rw [List.length_take]; omega
          omega)
        clear m1 m2
        go_wp2_with (refine app_ints (.tmp 58) (.tmp 64) rfl rfl w0.heap.size _ _ _ rfl HI.out.2.2.1 _ c.S c.sn.length c.cs c.sn rfl HCK.out.2.1.sn (by have := HLL.out; omega) HI.out.2.2.2.size ?_
                     intro v5 w5 h5 g5 a5
                     have HV5 := Lib.hid (And.intro h5 (HI.out.2.2.2.grown g5 HI.out.2.2.2.size (fun b hb => by have := (World.ownsRow.lt HI.out.2.2.1 b hb).1; omega)))
                     clear h5 g5 a5)
        go_roundw
        case rel =>
          refine ⟨k + 1, L ++ c.sn, by omega, by go_num, ?_, ?_, by rw [List.length_append]; exact HV5.out.1, HV5.out.2⟩
          · rw [HI.out.1, snAll_snoc HCK.out.1]
            rfl
          · intro c' hc'
            rw [take_snocI HCK.out.1] at hc'
            rcases List.mem_append.1 hc' with h | h
            · exact HI.out.2.1 c' h
            · simp at h
              rw [h]
              exact HCG.out
        case measure => simp [intOf]; omega
      · obtain rfl : k = o.cl.length := by omega
        obtain ⟨Av, cv, hv⟩ := HI.out.2.2.1.form2
        have hint : Ints wr wr.heap.size Av L.length L := (show OwnI wr w0.heap.size (.slice Av L.length cv) L.length L from hv ▸ HI.out.2.2.1).ints
        have HIN := Lib.hid hint
        have HL : Hid (L = 0 :: snAll o.v.cl) := Lib.hid (by rw [HI.out.1, List.take_length, HV.out])
        have HSQ : Hid (o.v.sq = o.sq) := Lib.hid (by rw [HV.out])
        have HLL : Hid (L.length ≤ 170000) := Lib.hid (by
          rw [HI.out.1, List.length_cons]
          have h1 := snAll_len (o.cl.take o.cl.length) (fun c hc => (HS.out.cl c (List.mem_of_mem_take hc)).1)
          have h2 : (o.cl.take o.cl.length).length ≤ 16 := by rw [List.length_take]; omega
          omega)
        have hlen := HLL.out
        subst hv
        clear hint hRr
        rename World => wo
        go_wp2
        go_loopw [5] (fun i wr => ∃ j m : Nat, m = j + 1 ∧ i = .int .i64 m ∧ (j = 0 ∨ j + 1 ≤ L.length) ∧ (∀ (p : Nat) (x y : Int), p < j → L[p]? = some x → L[p + 1]? = some y → x < y ∧ y ≤ o.sq) ∧ Below wo.heap.size wo wr) (fun i _ => L.length - (intOf i).toNat)
        case atStart => exact ⟨0, 1, rfl, rfl, .inl rfl, fun p x y h => by omega, Below.refl _ _⟩
        case round =>
          obtain ⟨j, m, hm, rfl, hj0, hst, hbl⟩ := hrel
          have HM := Lib.hid hm
          have hsub : (m : Int) - 1 = (j : Int) := by omega
          have hm1 : 1 ≤ m := by omega
          have HST := Lib.hid hst
          have HBL := Lib.hid hbl
          have x2'' : wr.cell? ⟨w.heap.size, 2, none⟩ = some (.int .i64 o.sq) := (hbl.cell (World.block_lt_of_cell? wo _ x2')).trans x2'
          clear hst hbl hm
          by_cases hjl : m < L.length
          · have hd5 : decide ((m : Int) < (L.length : Int)) = true := decide_eq_true (by omega)
            obtain ⟨ad, x, hA, hx, hcx⟩ := (Ints.since HIN.out HBL.out).at_ (k := j) (by have := HM.out; omega)
            obtain ⟨ad', y, hA', hy, hcy⟩ := (Ints.since HIN.out HBL.out).at_ (k := m) hjl
            rw [hA] at hA'
            injection hA' with hA'
            subst hA'
            have HX := Lib.hid (And.intro hx (show L[j + 1]? = some y by rw [← HM.out]; exact hy))
            generalize Av = av at *
            subst hA
            clear hx hy
            by_cases hle : y ≤ x
            · have hd6 : decide (y ≤ x) = true := decide_eq_true hle
              have HN : Hid (¬ Good o.v) := Lib.hid fun g => by
                have := good_steps g j x y (by rw [← HL.out]; exact HX.out.1) (by rw [← HL.out]; exact HX.out.2)
                omega
              clear hle
              go_wp2
              go_quiet (fail)
              go_wp2
              go_ret
              exact GoodTo.no HN.out (below_drewN (HB.out.trans (HBL.out.mono HB.out.size)) _)
            · have hd6 : decide (y ≤ x) = false := decide_eq_false hle
              by_cases hgt : o.sq < y
              · have hd7 : decide (o.sq < y) = true := decide_eq_true hgt
                have HN : Hid (¬ Good o.v) := Lib.hid fun g => by
                  have := good_steps g j x y (by rw [← HL.out]; exact HX.out.1) (by rw [← HL.out]; exact HX.out.2)
                  rw [HSQ.out] at this
                  omega
                clear hle hgt
                go_wp2
                go_quiet (fail)
                go_wp2
                go_ret
                exact GoodTo.no HN.out (below_drewN (HB.out.trans (HBL.out.mono HB.out.size)) _)
              · have hd7 : decide (o.sq < y) = false := decide_eq_false hgt
                have HXY : Hid (x < y ∧ y ≤ o.sq) := Lib.hid ⟨by omega, by omega⟩
                have hwj : IntKind.i64.wrap ((m : Int) + 1) = (m : Int) + 1 := by rw [IntKind.wrap_i64]; omega
                clear hle hgt
                go_wp2
                go_quiet (fail)
                go_wp2
                go_roundw
                case rel =>
                  refine ⟨j + 1, m + 1, by rw [HM.out], by go_num, .inr (by have := HM.out; omega), fun p a b hp ha hb => ?_, below_drewN HBL.out _⟩
                  by_cases hpj : p = j
                  · subst hpj
                    rw [HX.out.1] at ha
                    rw [HX.out.2] at hb
                    injection ha with ha
                    injection hb with hb
                    subst ha hb
                    exact HXY.out
                  · exact HST.out p a b (by omega) ha hb
                case measure => simp [intOf]; omega
          · have hd5 : decide ((m : Int) < (L.length : Int)) = false := decide_eq_false (by omega)
            have HGo : Hid (Good o.v) := Lib.hid (by
              have h1 := steps_good (q := o.sq) (snAll o.v.cl) 0 (by omega) (fun p x y hx hy => by
                rw [← HL.out] at hx hy
                exact HST.out p x y (by have := (List.getElem?_eq_some_iff.1 hy).1; have := HM.out; omega) hx hy)
              refine (good_iff o.v).2 ⟨⟨by rw [HSQ.out]; omega, by rw [HV.out]; exact HD.out, by rw [HV.out]; exact HT.out, by rw [HV.out]; simp only [List.length_map]; omega⟩, ?_, h1.1, by rw [HSQ.out]; exact h1.2⟩
              intro c hc
              rw [HV.out] at hc
              obtain ⟨c', hc', rfl⟩ := List.mem_map.1 hc
              exact HI.out.2.1 c' (by rw [List.take_length]; exact hc'))
            go_wp2
            go_ret
            exact ⟨true, rfl, ⟨fun _ => HGo.out, fun _ => rfl⟩, HB.out.trans (HBL.out.mono HB.out.size)⟩
end Go.Proofs.Ytjepfeagbiceoaa
