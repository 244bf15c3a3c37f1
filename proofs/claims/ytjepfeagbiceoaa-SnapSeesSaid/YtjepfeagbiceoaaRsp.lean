/-
  What snap.Put returns. Conditions: the object reads as it is said to.
-/
import Derived.Test.YtjepfeagbiceoaaRpt
namespace Go.Proofs.Ytjepfeagbiceoaa
open Go.RowKit Go.BigFrame
set_option linter.unusedSimpArgs false
set_option linter.unusedVariables false
set_option maxRecDepth 100000
theorem writer_zero9 (w : World) : (zeroValue 87).run Try.prog w = .ok (.agg #[.slice none 0 0]) w := by kernel_rfl
theorem Wr.made9 (w : World) : Wr (w.alloc (.cells #[.slice none 0 0] 87)) w.heap.size [w.heap.size] (some ⟨w.heap.size, 0, none⟩) [] :=
  .inr ⟨_, rfl, .slice none 0 0, by simp [rowOf, Value.ownBlock], Blk.new _ _ _, Own.nil _ _, Nat.le_refl _, fun b hb => by cases hb⟩
theorem plus_some (g : Addr) (a b : List Nat) : plus (some g) a b = a ++ b := rfl
/-- what Put comes to -/
def SPutTo (w : World) (o : OV) (e : Ending) (w' : World) : Prop :=
  Below w.heap.size w w' ∧ ((Good o ∧ ∃ v, e = .returned (.tuple #[v, .nilIface]) ∧ Own w' w.heap.size v (putV o).length (putV o)) ∨ (¬ Good o ∧ e = .returned (.tuple #[.slice none 0 0, errV 2])))
/-- a writer on its memory, behind what was there -/
structure Wrt (w1 wr : World) (F : List Nat) (g : Nat) (L : List Nat) : Prop where
  wrt : Wr wr w1.heap.size F (some ⟨g, 0, none⟩) L
  bel : Below w1.heap.size w1 wr
theorem Wrt.then_ {w1 wr w2 : World} {F : List Nat} {g : Nat} {L L' : List Nat} (h : Wrt w1 wr F g L) (ht : WTo wr w1.heap.size F (some ⟨g, 0, none⟩) L' w2) : ∃ F', Wrt w1 w2 F' g L' := by
  obtain ⟨F', h1, h2, h3⟩ := ht
  exact ⟨F', h1, h.bel.trans (h2.below h.wrt.over h.bel.size)⟩
theorem Wrt.next {w1 wr w2 : World} {F : List Nat} {g : Nat} {L : List Nat} (h : Wrt w1 wr F g L) (hb : Below wr.heap.size wr w2) : Wrt w1 w2 F g L := ⟨h.wrt.below hb, h.bel.trans (hb.mono h.bel.size)⟩
theorem Wrt.far {w1 wr : World} {F : List Nat} {g : Nat} {L : List Nat} (h : Wrt w1 wr F g L) {n size : Nat} {A : Option Addr} {xs : List Value} (hr : Reads w1 w1.heap.size size A n xs) : ∀ a, A = some a → 0 < n → a.block ∉ F := by
  intro a ha hn hm
  obtain ⟨ad, e, hb, _⟩ := hr.2 hn
  rw [ha] at e
  injection e with e
  subst e
  have := h.wrt.over a.block hm
  omega
set_option maxHeartbeats 8000000 in
theorem sput_any {w : World} (o : OA) (h : o.R w) (hS : o.Sm) : Calls Try.prog 24 #[.agg o.cs] w (SPutTo w o.v) := by
  obtain ⟨w0, hw0⟩ : ∃ w0, w0 = w.alloc (.cells o.cs 36) := ⟨_, rfl⟩
  have hb0 : Below w.heap.size w w0 := by rw [hw0]; exact below_alloc w _
  have hz0 : w0.heap.size = w.heap.size + 1 := by rw [hw0]; simp
  have K0 : Blk w0 w.heap.size 36 o.cs := by rw [hw0]; exact Blk.new w _ _
  have HC : Hid (∀ wr, Below w0.heap.size w0 wr → wr.cell? ⟨w.heap.size, 0, none⟩ = some (.bool o.th) ∧ wr.cell? ⟨w.heap.size, 1, none⟩ = some (.slice o.D o.dt.length o.cd) ∧ wr.cell? ⟨w.heap.size, 2, none⟩ = some (.int .i64 o.sq) ∧ wr.cell? ⟨w.heap.size, 3, none⟩ = some (.slice o.C o.cl.length o.cc)) := Lib.hid fun wr hb => by
    have K := K0.of (hb.block _ (by omega))
    exact ⟨K.cell 0, K.cell 1, K.cell 2, K.cell 3⟩
  have HR0 := Lib.hid (And.intro hb0 (h.since hb0))
  have HS := Lib.hid hS
  have HGd := Lib.hid (sgood_any o (h.since hb0))
  have HWE := Lib.hid hw0
  have hcs : o.cs = #[.bool o.th, .slice o.D o.dt.length o.cd, .int .i64 o.sq, .slice o.C o.cl.length o.cc] := rfl
  rw [hcs] at HWE HGd ⊢
  obtain ⟨x0, x1, x2, x3⟩ := HC.out w0 (Below.refl _ _)
  have hzw := writer_zero9
  clear h hw0 hb0 K0 hcs
  go_enter Try.func24, Try.ntmps24
  go_upto_region 1 with (fail)
  rw [← HWE.out]
  clear HWE
  go_wp2_with fail
  refine HGd.out.mono ?_
  rintro e w1 ⟨b, rfl, hbg, b1⟩
  have HB1 := Lib.hid b1
  have HB01 := Lib.hid (HR0.out.1.trans (b1.mono HR0.out.1.size))
  have HR1 := Lib.hid (HR0.out.2.since b1)
  have HV : Hid (o.v = ⟨o.th, o.dt, o.sq, o.cl.map CA.v⟩) := Lib.hid rfl
  cases b with
  | false =>
    have HN : Hid (¬ Good o.v) := Lib.hid fun g => by have := hbg.2 g; cases this
    clear b1 hbg x0 x1 x2 x3
    go_wp2
    go_ret2
    exact ⟨HB01.out, .inr ⟨HN.out, rfl⟩⟩
  | true =>
    have HGo := Lib.hid (hbg.1 rfl)
    clear b1 hbg x0 x1 x2 x3 HGd
    have HX : Hid (∀ w', Below w1.heap.size w1 w' → w'.cell? ⟨w.heap.size, 0, none⟩ = some (.bool o.th) ∧ w'.cell? ⟨w.heap.size, 1, none⟩ = some (.slice o.D o.dt.length o.cd) ∧ w'.cell? ⟨w.heap.size, 2, none⟩ = some (.int .i64 o.sq) ∧ w'.cell? ⟨w.heap.size, 3, none⟩ = some (.slice o.C o.cl.length o.cc)) := Lib.hid fun w' hb => HC.out w' (HB1.out.trans (hb.mono HB1.out.size))
    have hdl : o.dt.length ≤ 256 := by have := HGo.out.dt; rw [HV.out] at this; exact this
    have hcl : o.cl.length ≤ 16 := by have := HGo.out.cn; rw [HV.out] at this; simpa using this
    have x0 : ∀ ob, (w1.alloc ob).cell? ⟨w.heap.size, 0, none⟩ = some (.bool o.th) := fun ob => (HX.out _ (below_alloc w1 ob)).1
    have hmade := Wr.made9 w1
    have HW0 : Hid (Wrt w1 (w1.alloc (.cells #[.slice none 0 0] 87)) [w1.heap.size] w1.heap.size []) := Lib.hid ⟨hmade, below_alloc _ _⟩
    clear hmade
    go_wp2_with fail
    generalize w1.alloc (.cells #[.slice none 0 0] 87) = wA at *
    obtain ⟨g1, hg1⟩ : ∃ g1, g1 = w1.heap.size := ⟨_, rfl⟩
    rw [← hg1] at HW0 ⊢
    clear hg1
    refine (wflag_any wA w1.heap.size _ _ _ o.th HW0.out.wrt (by simp) HW0.out.bel.size).mono ?_
    rintro e w2 ⟨rfl, ht⟩
    obtain ⟨F2, hW2⟩ := HW0.out.then_ ht
    rw [plus_some, List.nil_append] at hW2
    have HW2 := Lib.hid hW2
    have x1 := (HX.out w2 hW2.bel).2.1
    clear ht hW2 x0
    go_wp2_with fail
    refine (wbytes_any w2 w1.heap.size _ _ _ o.dt _ o.D o.dt.length o.cd HW2.out.wrt (HR1.out.since HW2.out.bel).dt (HW2.out.far HR1.out.dt.1) (by simp only [List.length_cons, List.length_nil]; omega) HW2.out.bel.size).mono ?_
    rintro e w3 ⟨rfl, ht⟩
    obtain ⟨F3, hW3⟩ := HW2.out.then_ ht
    rw [plus_some] at hW3
    have HW3 := Lib.hid (show Wrt w1 w3 F3 g1 ([if o.th then 1 else 0] ++ bytesB o.dt) from hW3)
    have x2 := (HX.out w3 hW3.bel).2.2.1
    have hl3 : ([if o.th then 1 else 0] ++ bytesB o.dt).length ≤ 1000 := by rw [List.length_append, bytesB_len]; simp only [List.length_cons, List.length_nil]; omega
    obtain ⟨L3, hL3⟩ : ∃ L3, L3 = [if o.th then 1 else 0] ++ bytesB o.dt := ⟨_, rfl⟩
    rw [← hL3] at HW3 hl3
    have HL3 := Lib.hid hL3
    clear ht hW3 x1 hL3
    go_wp2_with fail
    refine (wnum_any w3 w1.heap.size _ _ _ o.sq HW3.out.wrt (by omega) HW3.out.bel.size).mono ?_
    rintro e w4 ⟨rfl, ht⟩
    obtain ⟨F4, hW4⟩ := HW3.out.then_ ht
    rw [plus_some] at hW4
    have HW4 := Lib.hid hW4
    have x3 := (HX.out w4 hW4.bel).2.2.2
    clear ht hW4 x2
    go_wp2_with fail
    refine (wnum_any w4 w1.heap.size _ _ _ o.cl.length HW4.out.wrt (by rw [List.length_append, numB_len]; omega) HW4.out.bel.size).mono ?_
    rintro e w5 ⟨rfl, ht⟩
    obtain ⟨F5, hW5⟩ := HW4.out.then_ ht
    rw [plus_some] at hW5
    have HW5 := Lib.hid hW5
    have x3 := (HX.out w5 hW5.bel).2.2.2
    have hl5 : (L3 ++ numB o.sq ++ numB o.cl.length).length ≤ 2000 := by rw [List.length_append, List.length_append, numB_len, numB_len]; omega
    have HE5 := Lib.hid (rfl : L3 ++ numB o.sq ++ numB o.cl.length = L3 ++ numB o.sq ++ numB o.cl.length)
    obtain ⟨L5, hL5⟩ : ∃ L5, L5 = L3 ++ numB o.sq ++ numB o.cl.length := ⟨_, rfl⟩
    rw [← hL5] at HW5 hl5
    have HL5 := Lib.hid hL5
    clear ht hW5 hL5 HE5
    go_wp2
    go_loopw [33] (fun i wr => ∃ (k : Nat) (F : List Nat), k ≤ o.cl.length ∧ i = .int .i64 k ∧ Wrt w1 wr F g1 (L5 ++ (o.cl.take k).flatMap fun c => clT c.v)) (fun i _ => o.cl.length - (intOf i).toNat)
    case atStart => exact ⟨0, F5, by omega, rfl, by simpa using HW5.out⟩
    case round =>
      obtain ⟨k, F, hk, rfl, ho⟩ := hrel
      have HP := Lib.hid ho
      have hwk : IntKind.i64.wrap ((k : Int) + 1) = (k : Int) + 1 := by rw [IntKind.wrap_i64]; omega
      have hcls : ∀ c ∈ o.cl, c.sn.length ≤ 10000 ∧ c.dt.length ≤ 10000 := HS.out.cl
      have hlk : (L5 ++ (o.cl.take k).flatMap fun c => clT c.v).length ≤ 2000 + 100000 * k := by
        have h1 := cls_len (o.cl.take k) (fun c hc => by have := hcls c (List.mem_of_mem_take hc); omega)
        have h2 : (o.cl.take k).length ≤ k := by rw [List.length_take]; omega
        rw [List.length_append]
        have : 100000 * (o.cl.take k).length ≤ 100000 * k := Nat.mul_le_mul_left _ h2
        omega
      have HLK := Lib.hid hlk
      have HCLS := Lib.hid hcls
      clear ho hlk hcls HW5 x3
      by_cases hlt : k < o.cl.length
      · obtain ⟨c, hck⟩ : ∃ c, o.cl[k]? = some c := ⟨_, List.getElem?_eq_getElem hlt⟩
        have hRr := HR1.out.since HP.out.bel
        obtain ⟨ad, had, hl, hc⟩ := hRr.get hck
        have hcR := HR1.out.cl c (List.mem_of_getElem? hck)
        have hsm := HCLS.out c (List.mem_of_getElem? hck)
        have HSN : Hid ((o.cl.take (k + 1)).flatMap (fun c => clT c.v) = (o.cl.take k).flatMap (fun c => clT c.v) ++ clT c.v) := Lib.hid (by rw [take_snocI hck, List.flatMap_append]; simp)
        have HCK := Lib.hid (And.intro hck (And.intro hcR hsm))
        have hsm1 := hsm.1
        have hsm2 := hsm.2
        have hba : Below wr.heap.size wr (wr.alloc (.cells #[.slice c.S c.sn.length c.cs, .slice c.D c.dt.length c.cd] 79)) := below_alloc wr _
        have HPA := Lib.hid (HP.out.next hba)
        have KC := Lib.hid (Blk.new wr 79 #[.slice c.S c.sn.length c.cs, .slice c.D c.dt.length c.cd])
        generalize o.C = oC at *
        subst had
        clear hck hcR hsm hRr hba
        generalize hLL : L5 ++ (o.cl.take k).flatMap (fun c => clT c.v) = L at *
        have HLL := Lib.hid hLL
        clear hLL
        go_wp2_with (have _h := hc; refine wpList_load_scl rfl (.tmp 35) rfl _ rfl c hc ?_; clear _h hc)
        generalize wr.alloc (.cells #[.slice c.S c.sn.length c.cs, .slice c.D c.dt.length c.cd] 79) = w6 at *
        refine (wnums_any w6 w1.heap.size _ _ _ _ c.S c.sn.length c.cs c.sn HPA.out.wrt (HCK.out.2.1.since HPA.out.bel).sn (HPA.out.far HCK.out.2.1.sn) (by have := HLK.out; omega) HPA.out.bel.size).mono ?_
        rintro e w7 ⟨rfl, ht⟩
        have hc7 : w7.cell? ⟨wr.heap.size, 1, none⟩ = some (.slice c.D c.dt.length c.cd) := by
          obtain ⟨F', _, h2, _⟩ := ht
          have hlt6 := KC.out.lt
          exact (KC.out.of (h2.block wr.heap.size hlt6 (fun hm => by have := HP.out.wrt.under wr.heap.size hm; omega))).cell 1
        obtain ⟨F7, hW7⟩ := HPA.out.then_ ht
        rw [plus_some] at hW7
        have HW7 := Lib.hid hW7
        clear ht hW7
        go_wp2_with fail
        refine (wbytes_any w7 w1.heap.size _ _ _ c.dt _ c.D c.dt.length c.cd HW7.out.wrt (HCK.out.2.1.since HW7.out.bel).dt (HW7.out.far HCK.out.2.1.dt.1) (by rw [List.length_append, numsB_len]; have := HLK.out; omega) HW7.out.bel.size).mono ?_
        rintro e w8 ⟨rfl, ht⟩
        obtain ⟨F8, hW8⟩ := HW7.out.then_ ht
        rw [plus_some] at hW8
        have HW8 := Lib.hid hW8
        clear ht hW8 hc7
        go_wp2
        go_roundw
        case rel =>
          refine ⟨k + 1, F8, by omega, by go_num, ?_⟩
          rw [HSN.out, ← List.append_assoc, HLL.out]
          have := HW8.out
          rwa [List.append_assoc] at this
        case measure => simp [intOf]; omega
      · obtain rfl : k = o.cl.length := by omega
        go_wp2_with fail
        refine (out_any wr w1.heap.size F _ _ HP.out.wrt (by have := HLK.out; omega)).mono ?_
        rintro e w8 ⟨v8, rfl, h8, b8⟩
        go_wp2
        go_ret2
        have e9 : L5 ++ (o.cl.take o.cl.length).flatMap (fun c => clT c.v) = putV o.v := by
          rw [List.take_length, HL5.out, HL3.out, putV, HV.out]
          simp only [List.flatMap_map, List.length_map]
        rw [e9] at h8
        exact ⟨HB01.out.trans ((HP.out.bel.trans (b8.mono HP.out.bel.size)).mono HB01.out.size), .inl ⟨HGo.out, _, rfl, h8.weaken (Nat.le_trans HB01.out.size HP.out.bel.size)⟩⟩
end Go.Proofs.Ytjepfeagbiceoaa
