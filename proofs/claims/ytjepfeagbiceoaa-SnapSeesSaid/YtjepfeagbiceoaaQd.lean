/-
  What the program says an object is at a snapshot. Conditions: the object reads as it is said to, and is small.
-/
import Derived.Test.YtjepfeagbiceoaaQc
namespace Go.Proofs.Ytjepfeagbiceoaa
open Go.RowKit
set_option linter.unusedSimpArgs false
set_option linter.unusedVariables false
set_option maxRecDepth 100000
/-- a variable made at the start of a call, and all behind it new -/
structure Box1 (w : World) (t : TypeId) (cs : Array Value) (wr : World) : Prop where
  bel : Below w.heap.size w wr
  blk : Blk wr w.heap.size t cs
section
variable {w wr wr' : World} {t : TypeId} {cs : Array Value}
theorem Box1.new (w : World) (t : TypeId) (cs : Array Value) : Box1 w t cs (w.alloc (.cells cs t)) := ⟨below_alloc w _, Blk.new w t cs⟩
theorem Box1.next (h : Box1 w t cs wr) (hb : Below wr.heap.size wr wr') : Box1 w t cs wr' := ⟨h.bel.trans (hb.mono h.bel.size), h.blk.of (hb.block _ h.blk.lt)⟩
theorem Box1.alloc (h : Box1 w t cs wr) (o : Obj) : Box1 w t cs (wr.alloc o) := h.next (below_alloc wr o)
theorem Box1.drew (h : Box1 w t cs wr) : Box1 w t cs wr.drew := h.next (Below.refl _ wr).drew
end
theorem atC_at {cl : List CA} {k : Nat} {c : CA} {s : Int} (hk : cl[k]? = some c) (h0 : s ∉ snAll ((cl.take k).map CA.v)) (hs : s ∈ c.sn) : atC (cl.map CA.v) s = some c.dt := by
  have hl := (List.getElem?_eq_some_iff.1 hk).1
  have h1 : cl = cl.take k ++ (c :: cl.drop (k + 1)) := by
    have h2 := List.take_append_drop k cl
    rw [List.drop_eq_getElem_cons hl] at h2
    have h3 : cl[k] = c := (List.getElem?_eq_some_iff.1 hk).2
    rw [h3] at h2
    exact h2.symm
  rw [h1, List.map_append, atC_app, atC_none.2 h0, List.map_cons]
  simp only [atC]
  rw [List.find?_cons_of_pos (by simpa [CA.v] using hs)]
  rfl
theorem headAt_yes {o : OV} {s : Int} (h : o.th = true ∧ ¬ (0 < s ∧ s ≤ o.sq)) : headAt o s = some o.dt := if_pos h
theorem headAt_no {o : OV} {s : Int} (h : ¬ (o.th = true ∧ ¬ (0 < s ∧ s ≤ o.sq))) : headAt o s = none := if_neg h
/-- what At answers -/
def AtTo (w : World) (o : OV) (s : Int) (e : Ending) (w' : World) : Prop := Below w.heap.size w w' ∧
  ((∃ d v, Good o ∧ 0 ≤ s ∧ atO o s = some d ∧ e = .returned (.tuple #[v, .bool true]) ∧ Own w' w.heap.size v d.length d ∧ ∀ b ∈ d, b < 256) ∨
   ((Good o → 0 ≤ s → atO o s = none) ∧ e = .returned (.tuple #[.slice none 0 0, .bool false])))
theorem AtTo.no {w w' : World} {o : OV} {s : Int} (h : Good o → 0 ≤ s → atO o s = none) (hb : Below w.heap.size w w') : AtTo w o s (.returned (.tuple #[.slice none 0 0, .bool false])) w' := ⟨hb, .inr ⟨h, rfl⟩⟩
set_option maxHeartbeats 4000000 in
theorem sat_any {w : World} (o : OA) (s : Int) (h : o.R w) (hS : o.Sm) : Calls Try.prog 23 #[.agg o.cs, .int .i64 s] w (AtTo w o.v s) := by
  have H := Lib.hid h
  have HSM := Lib.hid hS
  have hq1 := h.q1
  have hq2 := h.q2
  have hd1 := h.d1
  have hc1 := h.c1
  have HB := Lib.hid (Box1.new w 36 o.cs)
  have HGD := Lib.hid (sgood_any o (h.since (HB.out.bel)))
  have hcs : o.cs = #[.bool o.th, .slice o.D o.dt.length o.cd, .int .i64 o.sq, .slice o.C o.cl.length o.cc] := rfl
  clear h hS
  rw [hcs] at HB HGD
  rw [hcs]
  clear hcs
  obtain ⟨th, dt, D, cd, sq, C, cc, cl⟩ := o
  dsimp only at hq1 hq2 hd1 hc1 HB HGD ⊢
  obtain ⟨ov, hov⟩ : ∃ ov, ov = OA.v ⟨th, dt, D, cd, sq, C, cc, cl⟩ := ⟨_, rfl⟩
  rw [← hov] at HGD ⊢
  have HOV := Lib.hid hov
  clear hov
  go_enter Try.func23, Try.ntmps23
  go_wp2_with fail
  refine HGD.out.mono ?_
  rintro e w1 ⟨b, rfl, hg, hb1⟩
  have HB1 := Lib.hid (HB.out.next hb1)
  have HG := Lib.hid hg
  clear hb1 hg HGD HB
  cases b with
  | false =>
    have HN : Hid (AtTo w ov s (.returned (.tuple #[.slice none 0 0, .bool false])) w1) := Lib.hid (AtTo.no (fun g => by have := HG.out.2 g; cases this) HB1.out.bel)
    go_wp2
    go_ret2
    exact HN.out
  | true =>
  have HGO := Lib.hid (HG.out.1 rfl)
  clear HG
  by_cases hneg : s < 0
  · have e1 : decide (s < 0) = true := decide_eq_true hneg
    have HN : Hid (AtTo w ov s (.returned (.tuple #[.slice none 0 0, .bool false])) w1) := Lib.hid (AtTo.no (fun _ h => by omega) HB1.out.bel)
    go_wp2
    go_ret2
    exact HN.out
  have e1 : decide (s < 0) = false := decide_eq_false hneg
  have q0 : w1.cell? ⟨w.heap.size, 0, none⟩ = some (.bool th) := HB1.out.blk.cell 0
  have q1 : w1.cell? ⟨w.heap.size, 1, none⟩ = some (.slice D dt.length cd) := HB1.out.blk.cell 1
  have q2 : w1.cell? ⟨w.heap.size, 2, none⟩ = some (.int .i64 sq) := HB1.out.blk.cell 2
  have q3 : w1.cell? ⟨w.heap.size, 3, none⟩ = some (.slice C cl.length cc) := HB1.out.blk.cell 3
  go_wp2
  go_loopw [18] (fun i wr => ∃ k : Nat, k ≤ cl.length ∧ i = .int .i64 k ∧ s ∉ snAll ((cl.take k).map CA.v) ∧ Box1 w 36 #[.bool th, .slice D dt.length cd, .int .i64 sq, .slice C cl.length cc] wr) (fun i _ => cl.length - (intOf i).toNat)
  case atStart => exact ⟨0, by omega, rfl, by simp [snAll], HB1.out⟩
  case round =>
    obtain ⟨k, hk, rfl, hn, hb⟩ := hrel
    have HI := Lib.hid (And.intro hn hb)
    clear hn hb q0 q1 q2 q3
    obtain ⟨wo, hwo⟩ : ∃ wo, wo = wr := ⟨_, rfl⟩
    subst hwo
    by_cases hlt : k < cl.length
    · have hwk : IntKind.i64.wrap ((k : Int) + 1) = (k : Int) + 1 := by rw [IntKind.wrap_i64]; omega
      obtain ⟨c, hcl⟩ : ∃ c, cl[k]? = some c := ⟨_, List.getElem?_eq_getElem hlt⟩
      have hRr := H.out.since HI.out.2.bel
      obtain ⟨ad, rfl, hl, hc⟩ := hRr.get hcl
      have hok := hRr.cl c (List.mem_of_getElem? hcl)
      have hsm := HSM.out.cl c (List.mem_of_getElem? hcl)
      have HCL := Lib.hid hcl
      have hs1 := hok.s1
      have hx2 := hok.d2
      have hba : Below wo.heap.size wo (wo.alloc (.cells #[.slice c.S c.sn.length c.cs, .slice c.D c.dt.length c.cd] 79)) := below_alloc wo _
      have HCT := Lib.hid (contains_any (c := c.cs) s (hok.since hba).sn (by omega))
      have HCV := Lib.hid (clone_any c.D c.dt.length c.cd c.dt (wo.alloc (.cells #[.slice c.S c.sn.length c.cs, .slice c.D c.dt.length c.cd] 79)) _ (by omega) (hok.since hba).dt)
      have HBA := Lib.hid (HI.out.2.next hba)
      have HDT := Lib.hid hok.dt.2
      clear hRr hok hcl hba
      go_wp2_with (have _h := hc; refine wpList_load_scl rfl (.tmp 20) rfl _ rfl c hc ?_; clear _h hc)
      refine HCT.out.mono ?_
      rintro e w' ⟨rfl, rfl⟩
      have hbel := HBA.out.bel
      by_cases hct : c.sn.contains s = true
      · have hat := atC_at HCL.out HI.out.1 (List.contains_iff_mem.1 hct)
        have HAT := Lib.hid hat
        clear hat hbel
        generalize c.sn.contains s = bb at hct ⊢
        subst hct
        go_wp2_with fail
        refine HCV.out.mono ?_
        rintro e w2 ⟨v, rfl, hv, hb2⟩
        have HFIN : Hid (AtTo w ov s (.returned (.tuple #[v, .bool true])) w2) := Lib.hid ⟨(HBA.out.next hb2).bel, .inl ⟨c.dt, v, HGO.out, by omega, by rw [HOV.out]; unfold atO; simp only [OA.v, OA.vs]; rw [HAT.out], rfl, hv.weaken (HBA.out.bel.size), HDT.out⟩⟩
        clear hv hb2 HCV
        go_wp2
        go_ret2
        exact HFIN.out
      · have hct' : c.sn.contains s = false := by simpa using hct
        have HCF := Lib.hid hct'
        clear hbel hct
        generalize c.sn.contains s = bb at hct' ⊢
        subst hct'
        go_wp2
        go_roundw
        case rel =>
          refine ⟨k + 1, by omega, by go_num, ?_, HBA.out⟩
          rw [snAll_succ HCL.out]
          intro hm
          rcases List.mem_append.1 hm with h | h
          · exact HI.out.1 h
          · have := List.contains_iff_mem.2 h
            rw [HCF.out] at this
            cases this
        case measure => simp [intOf]; omega
    · obtain rfl : k = cl.length := by omega
      have q0 : wo.cell? ⟨w.heap.size, 0, none⟩ = some (.bool th) := HI.out.2.blk.cell 0
      have q1 : wo.cell? ⟨w.heap.size, 1, none⟩ = some (.slice D dt.length cd) := HI.out.2.blk.cell 1
      have q2 : wo.cell? ⟨w.heap.size, 2, none⟩ = some (.int .i64 sq) := HI.out.2.blk.cell 2
      have hac : atC ov.cl s = none := by
        rw [HOV.out]
        have := HI.out.1
        rw [List.take_of_length_le (Nat.le_refl _)] at this
        exact atC_none.2 this
      have HA : Hid (atO ov s = headAt ov s) := Lib.hid (by unfold atO; rw [hac])
      have HDT := Lib.hid (H.out.since HI.out.2.bel).dt
      have HSD : Hid (dt.length ≤ 10000) := Lib.hid HSM.out.dt
      clear hac
      by_cases hth : th = true ∧ ¬ (0 < s ∧ s ≤ sq)
      · have hh : headAt ov s = some dt := by rw [HOV.out]; exact headAt_yes hth
        have HH := Lib.hid hh
        have ht : th = true := hth.1
        have HCV := Lib.hid (clone_any D dt.length cd dt wo _ (by have := HSD.out; omega) HDT.out)
        rw [ht] at q0
        clear hh ht
        have hpost : ∀ (v : Value) (w2 : World), Own w2 wo.heap.size v dt.length dt → Below wo.heap.size wo w2 → AtTo w ov s (.returned (.tuple #[v, .bool true])) w2 := fun v w2 hv hb2 => ⟨(HI.out.2.next hb2).bel, .inl ⟨dt, v, HGO.out, by omega, by rw [HA.out, HH.out], rfl, hv.weaken HI.out.2.bel.size, HDT.out.2⟩⟩
        have HP := Lib.hid hpost
        clear hpost
        by_cases hs0 : 0 < s
        · have f1 : decide (0 < s) = true := decide_eq_true hs0
          have f2 : decide (s ≤ sq) = false := decide_eq_false fun h => hth.2 ⟨hs0, h⟩
          clear hth
          go_wp2_with fail
          refine HCV.out.mono ?_
          rintro e w2 ⟨v, rfl, hv, hb2⟩
          have HFIN := Lib.hid (HP.out v w2 hv hb2)
          clear hv hb2 HCV
          go_wp2
          go_ret2
          exact HFIN.out
        · have f1 : decide (0 < s) = false := decide_eq_false hs0
          clear hth
          go_wp2_with fail
          refine HCV.out.mono ?_
          rintro e w2 ⟨v, rfl, hv, hb2⟩
          have HFIN := Lib.hid (HP.out v w2 hv hb2)
          clear hv hb2 HCV
          go_wp2
          go_ret2
          exact HFIN.out
      · have hh : headAt ov s = none := by rw [HOV.out]; exact headAt_no hth
        have HN : Hid (AtTo w ov s (.returned (.tuple #[.slice none 0 0, .bool false])) wo) := Lib.hid (AtTo.no (fun _ _ => by rw [HA.out, hh]) HI.out.2.bel)
        clear hh
        cases th with
        | false =>
          clear hth
          go_wp2
          go_ret2
          exact HN.out
        | true =>
          have ht : true = true := rfl
          have hs0 : 0 < s := by
            rcases Int.lt_or_le 0 s with h | h
            · exact h
            · exact absurd ⟨ht, fun h' => by omega⟩ hth
          have hs1 : s ≤ sq := by
            rcases Int.lt_or_le sq s with h | h
            · exact absurd ⟨ht, fun h' => by omega⟩ hth
            · exact h
          have f1 : decide (0 < s) = true := decide_eq_true hs0
          have f2 : decide (s ≤ sq) = true := decide_eq_true hs1
          clear ht hth
          go_wp2
          go_ret2
          exact HN.out
end Go.Proofs.Ytjepfeagbiceoaa
