/-
  The walk of the law SpaceHoles. Conditions: the extents read as they are said to.
-/
import Derived.Test.YtliockcbnmbhnaaSpaceFewWalk
namespace Go.Proofs.Ytliockcbnmbhnaa
open Go.RowKit Go.BigFrame
set_option linter.unusedSimpArgs false
set_option linter.unusedVariables false
/-- one extent is claimed; what was laid for it stays -/
theorem claim_one2 {w W : World} {g r c : Nat} {A : Option Addr} {fl : List Bool} (h : Sps w W g r c A fl) (e : Int × Int) (hi : InI e) (cs : Array Value) :
    Calls Try.prog 20 #[.pointer (some ⟨g, 0, none⟩), .slice (some ⟨W.heap.size + 1, 0, none⟩) 1 1] ((W.alloc (.cells cs 45)).alloc (.cells (ext1 e).toArray 45)) fun e' w' =>
      (∃ x y : Nat, e = ((x : Int), (y : Int)) ∧ 1 ≤ y ∧ AllR fl x y true ∧ e' = .returned .nilIface ∧ Sps w w' g r c A (setR fl x y false) ∧ Blk w' W.heap.size 45 cs) ∨ (e' = .returned (errV 1) ∧ Sps w w' g r c A fl) := by
  have h2 := (h.below ((Below.refl _ _).alloc (Nat.le_refl _) (.cells cs 45))).below ((Below.refl _ _).alloc (Nat.le_refl _) (.cells (ext1 e).toArray 45))
  have hex := ext_new (W.alloc (.cells cs 45)) e
  have s1 : (W.alloc (.cells cs 45)).heap.size = W.heap.size + 1 := World.size_alloc _ _
  have s2 : ((W.alloc (.cells cs 45)).alloc (.cells (ext1 e).toArray 45)).heap.size = W.heap.size + 2 := by rw [World.size_alloc, s1]
  have K := (Blk.new W 45 cs).alloc (.cells (ext1 e).toArray 45)
  rw [s1] at hex
  have hg := h.at_.blk.lt
  refine (claim_at [e] (by intro x hx; simp at hx; subst hx; exact hi) h2.at_ h2.ne (some ⟨W.heap.size + 1, 0, none⟩) 1 (by simp) hex (by rw [s2]; omega) (fun ad ha => by injection ha with ha; subst ha; exact ⟨by show W.heap.size + 1 ≠ g; omega, fun hf => by have := h.at_.rlt hf; show W.heap.size + 1 ≠ r; omega⟩) (by simp)).mono ?_
  rintro e' w' ⟨ho, ⟨ns, h1, h3, h4⟩ | ⟨h1, h3, h4⟩⟩
  · obtain ⟨t1, t2, t3⟩ := h1
    match ns, t1, t2, t3, h4 with
    | [(x, y)], t1, t2, t3, h4 =>
      simp only [natE, List.map_cons, List.map_nil, List.cons.injEq, and_true] at t1
      have hy := t2 (x, y) (by simp)
      have ha := t3.1
      refine .inl ⟨x, y, t1, hy, by simpa using ha, h3, h2.only ho h4, ?_⟩
      have hfl : fl ≠ [] := fun e => by subst e; have := ha.1; simp at this; omega
      have := h.at_.rlt hfl
      exact K.of (ho.block _ K.lt (by simp; omega))
  · exact .inr ⟨h3, h2.only ho h4⟩
theorem lens_drop {L : List (Nat × Nat)} {q : Nat} (h : q < L.length) : lens (L.drop q) = (gx L q).2 + lens (L.drop (q + 1)) := by
  rw [List.drop_eq_getElem_cons h, show gx L q = L[q] from gx_of (List.getElem?_eq_getElem h)]
  simp only [lens, List.map_cons, List.sum_cons]
theorem cnt_take {fl : List Bool} {x y : Nat} (h : AllR fl x y true) : cnt (setR fl x y false) + y = cnt fl := by
  have := cnt_turn (b := false) h
  simp at this
  omega
set_option maxRecDepth 100000 in
set_option maxHeartbeats 8000000 in
theorem spaceHoles_walk {w : World} (x : Int) (hx1 : -9223372036854775808 ≤ x) (hx2 : x ≤ 9223372036854775807) (A : Option Addr) (c : Nat) (l : List (Int × Int)) (hm : l.length ≤ c ∧ c ≤ 9223372036854775807) (hR : ExtR w w.heap.size A l) (hI : ∀ e ∈ l, InI e) :
    Calls Try.prog 5 #[.int .i64 x, .slice A l.length c] w fun e w' => e = .returned (.bool true) ∧ Below w.heap.size w w' := by
  have HR := Lib.hid hR
  have HI := Lib.hid hI
  obtain ⟨m, hm2, hmx⟩ := mod200 x
  clear hR hI
  go_enter Try.func5, Try.ntmps5
  go_wp2_with fail
  refine (alive_any w).mono ?_
  rintro e w1 ⟨rfl, hb1⟩
  have HB1 := Lib.hid hb1
  clear hb1
  by_cases hlong : (30 : Int) < (l.length : Int)
  · have hd : decide ((30 : Int) < (l.length : Int)) = true := decide_eq_true hlong
    go_wp2
    go_ret
    exact ⟨rfl, HB1.out⟩
  · have hd : decide ((30 : Int) < (l.length : Int)) = false := decide_eq_false hlong
    go_wp2_with fail
    refine (snew_any m (by omega) _).mono ?_
    rintro e w2 ⟨p, rfl, g, r, A1, c1, rfl, hs, hne, hg, hr, hb⟩
    have hz1 := HB1.out.size
    have HS := Lib.hid (show Sps w w2 g r c1 A1 (List.replicate m true) from ⟨hs, hne, HB1.out.trans (hb.mono hz1), by omega, by omega⟩)
    clear hs hne hg hr hb
    go_wp2_with fail
    go_loopw [7, 32] (fun uv i wr => ∃ (k u : Nat) (fl : List Bool), k ≤ l.length ∧ i = .int .i64 k ∧ uv = .int .i64 u ∧ cnt fl + u = m ∧ fl.length = m ∧ Sps w wr g r c1 A1 fl) (fun _ i _ => l.length - (intS i).toNat)
    case atStart => exact ⟨0, 0, _, by omega, rfl, rfl, by rw [cnt_all]; rfl, by simp, HS.out⟩
    case round =>
      obtain ⟨k, u, fl, hk, rfl, rfl, hcnt, hlen, hS⟩ := hrel
      obtain ⟨wo, hwo⟩ : ∃ wo, wo = wr := ⟨_, rfl⟩
      subst hwo
      by_cases hlt : k < l.length
      · obtain ⟨ad, e, rfl, hab, he, a0, a1⟩ := (ExtR.only HR.out (Only.of_below hS.bel []) (Nat.le_refl _) (fun _ _ => by simp)).get hlt
        have HC := Lib.hid (claim_one2 hS e (HI.out e (List.mem_of_getElem? he)) #[.int .i64 e.1, .int .i64 e.2])
        have hwk : IntKind.i64.wrap ((k : Int) + 1) = (k : Int) + 1 := by rw [IntKind.wrap_i64]; omega
        have hbe := build_ext e
        have HCN := Lib.hid (And.intro hcnt hlen)
        clear hS he hcnt hlen
        go_wp2_with (refine wpList_load_ext rfl (.tmp 34) rfl _ rfl e a0 a1 ?_)
        refine HC.out.mono ?_
        rintro e3 w3 h3
        rcases h3 with ⟨x, y, rfl, hy, hall, rfl, hS', hK⟩ | ⟨rfl, hS'⟩
        · have HS' := Lib.hid hS'
          have HY := Lib.hid (And.intro hy (cnt_take hall))
          have hyl := hall.1
          have hc1 := cnt_le fl
          have hlen2 := setR_len hyl false
          have HL2 := Lib.hid (And.intro hlen2 hyl)
          have q1 : w3.cell? ⟨wo.heap.size, 1, none⟩ = some (.int .i64 (y : Int)) := hK.cell 1
          have hwu : IntKind.i64.wrap ((u : Int) + (y : Int)) = (u : Int) + (y : Int) := by have := HCN.out; have := HY.out; rw [IntKind.wrap_i64]; omega
          clear hS' HC a0 a1 hall hK hlen2 hyl hc1
          go_wp2
          go_roundw
          case rel => exact ⟨k + 1, u + y, setR fl x y false, by omega, by go_num, by go_num, by have := HCN.out; have := HY.out; omega, by have := HCN.out; have := HL2.out; omega, HS'.out⟩
          case measure => simp [intS]; omega
        · have HS' := Lib.hid hS'
          clear hS' HC a0 a1
          simp only [errV]
          go_wp2
          go_roundw
          case rel => exact ⟨k + 1, u, fl, by omega, by go_num, rfl, HCN.out.1, HCN.out.2, HS'.out⟩
          case measure => simp [intS]; omega
      · have HS1 := Lib.hid hS
        have HH := Lib.hid (holes_sps hS)
        have hfw : (hol 0 fl).length ≤ 65536 := by have h1 := hol_few fl; have h2 := cnt_le fl; have h3 := hS.at_.lim; omega
        have hmem : ∀ q, q < (hol 0 fl).length → 1 ≤ (gx (hol 0 fl) q).2 ∧ (gx (hol 0 fl) q).1 + (gx (hol 0 fl) q).2 ≤ m := fun q hq => by
          have h1 := hol_mem fl 0 (gx (hol 0 fl) q).1 (gx (hol 0 fl) q).2 (List.mem_of_getElem? (gx_some hq))
          exact ⟨h1.2.1, by have := h1.2.2.1; omega⟩
        have hris : ∀ p q, p < q → q < (hol 0 fl).length → (gx (hol 0 fl) p).1 + (gx (hol 0 fl) p).2 < (gx (hol 0 fl) q).1 := fun p q hpq hq => by
          have h1 := List.pairwise_iff_getElem.1 (hol_rises fl 0) p q (by omega) hq hpq
          rwa [← gx_of (List.getElem?_eq_getElem (show p < (hol 0 fl).length by omega)), ← gx_of (List.getElem?_eq_getElem hq)] at h1
        have hlens : lens (hol 0 fl) + u = m := by rw [hol_lens]; exact hcnt
        have HCL := Lib.hid (And.intro hmem (And.intro hris hlens))
        have HCN := Lib.hid hcnt
        clear hS HS hmem hris hlens hcnt hlen
        generalize hL : hol 0 fl = L at *
        have HHL := Lib.hid hL
        clear hL
        have hnl : (natE L).length = L.length := by simp [natE]
        go_wp2_with fail
        refine HH.out.mono ?_
        rintro e4 w4 ⟨v4, rfl, hv4, hb4⟩
        have HS4 := Lib.hid (HS1.out.below hb4)
        have HV4 := Lib.hid hv4
        obtain ⟨A4, c4, rfl, -⟩ := hv4.form
        rw [hnl] at HV4 hv4 ⊢
        have hX4 : ExtR w4 w4.heap.size A4 (natE L) := OwnE.ext (c := c4) (by rw [hnl]; exact hv4)
        have HX4 := Lib.hid hX4
        clear hv4 hb4 HH HS1 hX4
        go_wp2_with fail
        go_loopw [10, 11, 49] (fun av sv i wr => ∃ (q s : Nat) (a : Int), q ≤ L.length ∧ i = .int .i64 q ∧ sv = .int .i64 s ∧ av = .int .i64 a ∧ s + lens (L.drop q) = lens L ∧ (∀ j, q ≤ j → j < L.length → a < ((gx L j).1 : Int)) ∧ Below w4.heap.size w4 wr) (fun _ _ i _ => L.length - (intS i).toNat)
        case atStart => exact ⟨0, 0, -1, by omega, rfl, rfl, rfl, by simp, fun j _ _ => by omega, Below.refl _ _⟩
        case round =>
          obtain ⟨q, s, a, hq, rfl, rfl, rfl, hs, ha, hbr⟩ := hrel
          obtain ⟨wp, hwp⟩ : ∃ wp, wp = wr := ⟨_, rfl⟩
          subst hwp
          by_cases hlt2 : q < L.length
          · obtain ⟨ad, e, rfl, hab, he, a0, a1⟩ := (ExtR.only HX4.out (Only.of_below hbr []) (Nat.le_refl _) (fun _ _ => by simp)).get (k := q) (by rw [hnl]; exact hlt2)
            have he2 : e = (((gx L q).1 : Int), ((gx L q).2 : Int)) := by
              simp only [natE, List.getElem?_map, gx_some hlt2, Option.map_some] at he
              injection he with he
              exact he.symm
            subst he2
            have hwk : IntKind.i64.wrap ((q : Int) + 1) = (q : Int) + 1 := by rw [IntKind.wrap_i64]; omega
            have hm1 := HCL.out.1 q hlt2
            have hld := lens_drop hlt2
            have hsm : lens L ≤ m := by have := HCL.out.2.2; omega
            have haq := ha q (by omega) hlt2
            have hnx : ∀ j, q + 1 ≤ j → j < L.length → ((gx L q).1 : Int) + ((gx L q).2 : Int) < ((gx L j).1 : Int) := fun j h1 h2 => by have := HCL.out.2.1 q j (by omega) h2; omega
            have hwe : IntKind.i64.wrap (((gx L q).1 : Int) + ((gx L q).2 : Int)) = ((gx L q).1 : Int) + ((gx L q).2 : Int) := by rw [IntKind.wrap_i64]; omega
            have hws : IntKind.i64.wrap ((s : Int) + ((gx L q).2 : Int)) = (s : Int) + ((gx L q).2 : Int) := by rw [IntKind.wrap_i64]; omega
            have hd1 : decide (((gx L q).1 : Int) ≤ a) = false := decide_eq_false (by omega)
            have hd2 : decide (((gx L q).2 : Int) < 1) = false := decide_eq_false (by omega)
            have hd3 : decide ((m : Int) < ((gx L q).1 : Int) + ((gx L q).2 : Int)) = false := decide_eq_false (by omega)
            have HLG := Lib.hid (And.intro hnx (And.intro hbr (show s + (gx L q).2 + lens (L.drop (q + 1)) = lens L by omega)))
            clear he hbr hs ha hnx hm1 hld haq hsm
            generalize hg1 : (gx L q).1 = e1 at *
            generalize hg2 : (gx L q).2 = e2 at *
            clear hg1 hg2
            go_wp2_with (refine wpList_load_ext rfl (.tmp 51) rfl _ rfl _ a0 a1 ?_)
            clear a0 a1
            go_quiet (fail)
            go_wp2
            go_roundw
            case rel => exact ⟨q + 1, s + e2, (e1 : Int) + (e2 : Int), by omega, by go_num, by go_num, rfl, HLG.out.2.2, HLG.out.1, drawn_below (HLG.out.2.1.alloc HLG.out.2.1.size _) _⟩
            case measure => simp [intS]; omega
          · obtain rfl : q = L.length := by omega
            have hsu : (s : Int) = (m : Int) - (u : Int) := by have h1 := HCL.out.2.2; simp [lens] at hs h1; omega
            have hwu : IntKind.i64.wrap ((m : Int) - (u : Int)) = (s : Int) := by rw [hsu, IntKind.wrap_i64]; omega
            have hcs : (cnt fl : Int) = (s : Int) := by have := HCN.out; omega
            have hS5 := HS4.out.below hbr
            have HF := Lib.hid (sfree_any hS5.at_.blk)
            rw [hcs] at HF
            have HB6 := Lib.hid hS5.bel
            clear hbr hs ha hS5 HS4 hsu
            go_wp2_with fail
            refine HF.out.mono ?_
            rintro e6 w6 ⟨rfl, rfl⟩
            go_wp2
            go_ret
            exact ⟨by simp, HB6.out⟩
end Go.Proofs.Ytliockcbnmbhnaa
