/-
  DropChild's closure. Conditions: the copy is the call's own; the child's name is short.
-/
import Derived.Test.YtiimanoloedbeaaOf

namespace Go.Proofs.Ytiimanoloedbeaa
open Go.RowKit Go.BigFrame
set_option linter.unusedSimpArgs false
set_option linter.unusedVariables false
set_option maxRecDepth 100000
def DroE (v : HdV) (t : Int) (x : List Nat) (k : Nat) : Prop := (idxN v t < 0 ∧ k = 6) ∨ ∃ (i : Nat) (s : SnV), idxN v t = i ∧ v.sn[i]? = some s ∧ (∃ j, Fnd s.ch x j false) ∧ k = 6
def DroO (v : HdV) (t : Int) (x : List Nat) (v' : HdV) : Prop := ∃ (i : Nat) (s : SnV), idxN v t = i ∧ v.sn[i]? = some s ∧ ∃ j, Fnd s.ch x j true ∧ v' = v.setSn i { s with ch := s.ch.eraseIdx j }
set_option maxHeartbeats 16000000 in
theorem drop1_any (W : World) (base g gn gx : Nat) (c : HA) (t : Int) (x : List Nat) (hb : base ≤ W.heap.size) (hg : base ≤ g) (k : Blk W g 36 c.cs) (hN : c.N W base []) (hdj : c.Dj) (hc : c.sn.length ≤ 1000) (hch : ∀ s ∈ c.sn, s.ch.length ≤ 1000000) (ht : I64 t) (hx : ∀ b ∈ x, b < 256) (hgn : gn < base) (hgx : gx < base)
    (kn : W.cell? ⟨gn, 0, none⟩ = some (.int .i64 t)) (kx : W.cell? ⟨gx, 0, none⟩ = some (.string (strOf x))) :
    Calls Try.prog 122 #[.pointer (some ⟨g, 0, none⟩), .pointer (some ⟨gn, 0, none⟩), .pointer (some ⟨gx, 0, none⟩)] W (DoesTo base [] g (fun k _ => DroE c.v t x k) (fun v _ => DroO c.v t x v) W) := by
  obtain ⟨ix, hix⟩ : ∃ ix, ix = idxI (fun s : SA => s.num == t) c.sn := ⟨_, rfl⟩
  have HFN : Hid (∀ W', Below W.heap.size W W' → Calls Try.prog 30 #[.agg #[.int .i64 c.id, .int .i64 c.vw.size, .int .i64 c.obj, .int .i64 c.seq, .slice c.S c.sn.length c.cs', .bool c.vw.on, .bool c.vw.good, .slice c.vw.M c.vw.row.length c.vw.cm, .string (strOf c.vw.par), .int .i64 c.vw.ps, .int .i64 c.vw.ov, .int .i64 c.ow, .int .i64 c.it, .int .i64 c.tg], .int .i64 t] W' fun e w' => e = .returned (.int .i64 ix) ∧ Below W'.heap.size W' w') := Lib.hid fun W' hW' => by rw [hix]; exact number_any c t W' (hN.R.since hW') (by omega)
  have HIX : Hid (idxN c.v t = ix) := Lib.hid (by rw [idxN_own, hix])
  have HAT : Hid (0 ≤ ix → ∃ (i : Nat) (s : SA), ix = i ∧ c.sn[i]? = some s) := Lib.hid fun h => by
    obtain ⟨i, s, e, hs, -⟩ := idx_at _ c.sn (hix ▸ h)
    exact ⟨i, s, hix.trans e, hs⟩
  have HB1 : Hid (∀ W', Below W.heap.size W W' → Blk W' g 36 #[.int .i64 c.id, .int .i64 c.vw.size, .int .i64 c.obj, .int .i64 c.seq, .slice c.S c.sn.length c.cs', .bool c.vw.on, .bool c.vw.good, .slice c.vw.M c.vw.row.length c.vw.cm, .string (strOf c.vw.par), .int .i64 c.vw.ps, .int .i64 c.vw.ov, .int .i64 c.ow, .int .i64 c.it, .int .i64 c.tg]) := Lib.hid fun W' hW' => by
    have k1 : Blk W g 36 #[.int .i64 c.id, .int .i64 c.vw.size, .int .i64 c.obj, .int .i64 c.seq, .slice c.S c.sn.length c.cs', .bool c.vw.on, .bool c.vw.good, .slice c.vw.M c.vw.row.length c.vw.cm, .string (strOf c.vw.par), .int .i64 c.vw.ps, .int .i64 c.vw.ov, .int .i64 c.ow, .int .i64 c.it, .int .i64 c.tg] := k
    exact k1.of (hW'.block _ k.lt)
  have HKN : Hid (∀ W', Below W.heap.size W W' → W'.cell? ⟨gn, 0, none⟩ = some (.int .i64 t)) := Lib.hid fun W' hW' => (hW'.cell (by show gn < _; omega)).trans kn
  have HKX : Hid (∀ W', Below W.heap.size W W' → W'.cell? ⟨gx, 0, none⟩ = some (.string (strOf x))) := Lib.hid fun W' hW' => (hW'.cell (by show gx < _; omega)).trans kx
  have HK := Lib.hid (And.intro k (And.intro hN (And.intro hb (And.intro hg (And.intro hdj (And.intro hx (And.intro hgx (And.intro hc hch))))))))
  clear hix kn kx k hN hb hg hgn hgx hdj hx hc hch ht
  go_enter Try.func122, Try.ntmps122
  go_upto_region 1 with (fail)
  have hS : Below W.heap.size W W.drew := (Below.refl _ W).drew
  refine any_beginL (fun W' => Below W.heap.size W W') 99 (by kernel_rfl) ?_
  refine S_take (i := 0) (v := .pointer (some ⟨g, 0, none⟩)) rfl rfl (by kernel_rfl) (by kernel_rfl) (by kernel_rfl) (fun _ _ _ h => h) (Or.inl ⟨by rfl, fun W hw => by go_simp⟩) hS ?_
  simp only [Act.put, List.getElem_toArray, List.getElem_cons_succ, List.getElem_cons_zero, List.setIfInBounds_toArray, List.set_cons_zero, List.set_cons_succ]
  refine S_take (i := 1) (v := .pointer (some ⟨g, 0, none⟩)) rfl rfl (by kernel_rfl) (by kernel_rfl) (by kernel_rfl) (fun _ _ _ h => h) (Or.inl ⟨by rfl, fun W hw => by go_simp⟩) hS ?_
  simp only [Act.put, List.getElem_toArray, List.getElem_cons_succ, List.getElem_cons_zero, List.setIfInBounds_toArray, List.set_cons_zero, List.set_cons_succ]
  refine S_take (i := 2) (v := .agg #[.int .i64 c.id, .int .i64 c.vw.size, .int .i64 c.obj, .int .i64 c.seq, .slice c.S c.sn.length c.cs', .bool c.vw.on, .bool c.vw.good, .slice c.vw.M c.vw.row.length c.vw.cm, .string (strOf c.vw.par), .int .i64 c.vw.ps, .int .i64 c.vw.ov, .int .i64 c.ow, .int .i64 c.it, .int .i64 c.tg]) rfl rfl (by kernel_rfl) (by kernel_rfl) (by kernel_rfl) (fun _ _ _ h => h) (Or.inl ⟨by rfl, fun W hw => by have k0 : W.cell? ⟨g, 0, none⟩ = some (.int .i64 c.id) := (HB1.out W hw).cell 0; have k1 : W.cell? ⟨g, 1, none⟩ = some (.int .i64 c.vw.size) := (HB1.out W hw).cell 1; have k2 : W.cell? ⟨g, 2, none⟩ = some (.int .i64 c.obj) := (HB1.out W hw).cell 2; have k3 : W.cell? ⟨g, 3, none⟩ = some (.int .i64 c.seq) := (HB1.out W hw).cell 3; have k4 : W.cell? ⟨g, 4, none⟩ = some (.slice c.S c.sn.length c.cs') := (HB1.out W hw).cell 4; have k5 : W.cell? ⟨g, 5, none⟩ = some (.bool c.vw.on) := (HB1.out W hw).cell 5; have k6 : W.cell? ⟨g, 6, none⟩ = some (.bool c.vw.good) := (HB1.out W hw).cell 6; have k7 : W.cell? ⟨g, 7, none⟩ = some (.slice c.vw.M c.vw.row.length c.vw.cm) := (HB1.out W hw).cell 7; have k8 : W.cell? ⟨g, 8, none⟩ = some (.string (strOf c.vw.par)) := (HB1.out W hw).cell 8; have k9 : W.cell? ⟨g, 9, none⟩ = some (.int .i64 c.vw.ps) := (HB1.out W hw).cell 9; have k10 : W.cell? ⟨g, 10, none⟩ = some (.int .i64 c.vw.ov) := (HB1.out W hw).cell 10; have k11 : W.cell? ⟨g, 11, none⟩ = some (.int .i64 c.ow) := (HB1.out W hw).cell 11; have k12 : W.cell? ⟨g, 12, none⟩ = some (.int .i64 c.it) := (HB1.out W hw).cell 12; have k13 : W.cell? ⟨g, 13, none⟩ = some (.int .i64 c.tg) := (HB1.out W hw).cell 13; go_simp⟩) hS ?_
  simp only [Act.put, List.getElem_toArray, List.getElem_cons_succ, List.getElem_cons_zero, List.setIfInBounds_toArray, List.set_cons_zero, List.set_cons_succ]
  refine S_take (i := 3) (v := .int .i64 t) rfl rfl (by kernel_rfl) (by kernel_rfl) (by kernel_rfl) (fun _ _ _ h => h) (Or.inl ⟨by rfl, fun W hw => by have k1 := HKN.out W hw; go_simp⟩) hS ?_
  simp only [Act.put, List.getElem_toArray, List.getElem_cons_succ, List.getElem_cons_zero, List.setIfInBounds_toArray, List.set_cons_zero, List.set_cons_succ]
  refine L_one (j := 4) (by kernel_rfl) rfl (by rfl) ?_
  simp only [Act.put, List.getElem_toArray, List.getElem_cons_succ, List.getElem_cons_zero, List.setIfInBounds_toArray, List.set_cons_zero, List.set_cons_succ]
  refine wp_called (by go_simp) (HFN.out _ hS) ?_
  rintro e W4 ⟨rfl, b⟩
  have hS : Below W.heap.size W W4 := hS.trans (b.mono hS.size)
  clear b
  refine ⟨_, rfl, hS, ?_⟩
  simp only [Act.put, List.getElem_toArray, List.getElem_cons_succ, List.getElem_cons_zero, List.setIfInBounds_toArray, List.set_cons_zero, List.set_cons_succ]
  refine S_take (i := 5) (v := .int .i64 ix) rfl rfl (by kernel_rfl) (by kernel_rfl) (by kernel_rfl) (fun _ _ _ h => h) (Or.inl ⟨by rfl, fun W hw => by go_simp⟩) hS ?_
  simp only [Act.put, List.getElem_toArray, List.getElem_cons_succ, List.getElem_cons_zero, List.setIfInBounds_toArray, List.set_cons_zero, List.set_cons_succ]
  refine L_done (by kernel_rfl) ?_
  refine NoPanic.normal ?_
  have HS1 := Lib.hid hS
  clear hS
  by_cases c1 : ix < 0
  · have d1 : decide (ix < 0) = true := decide_eq_true c1
    have HC := Lib.hid c1
    clear c1
    go_wp2
    go_ret
    exact ⟨Frm.of (HS1.out.mono HK.out.2.2.1), .inl ⟨6, rfl, by omega, .inl ⟨by rw [HIX.out]; exact HC.out, rfl⟩⟩⟩
  have d1 : decide (ix < 0) = false := decide_eq_false c1
  obtain ⟨i, s, rfl, hs⟩ := HAT.out (by omega)
  clear c1
  have hlt : i < c.sn.length := (List.getElem?_eq_some_iff.1 hs).1
  obtain ⟨gS, hSg, -, -, -⟩ := sn_at HK.out.2.1 hs
  have HSG := Lib.hid (And.intro hSg hs)
  have q4 := (HB1.out _ HS1.out).cell 4
  rw [hSg] at q4
  have hl63 : c.sn.length ≤ 1000 := HK.out.2.2.2.2.2.2.2.1
  clear hs hSg
  go_upto_region 5 with (fail)
  have HX := Lib.hid hl63
  clear hl63 q4 hlt
  obtain ⟨gS', hS', -, hgw, hcc⟩ := sn_at HK.out.2.1 HSG.out.2
  obtain rfl : gS' = gS := by have h := hS'.symm.trans HSG.out.1; injection h with h; injection h with h
  obtain ⟨m, hm⟩ : ∃ m, m = s.ch.length := ⟨_, rfl⟩
  have hsN := HK.out.2.1.sn s (List.mem_of_getElem? HSG.out.2)
  have hcl := HK.out.2.2.2.2.2.2.2.2 s (List.mem_of_getElem? HSG.out.2)
  have H10 : Hid (∀ W', Below W.heap.size W W' → W'.cell? ⟨gS', i * 11 + 10, none⟩ = some (.slice s.C m s.cc)) := Lib.hid fun W' h => by rw [hm]; exact (h.cell hgw).trans (hcc 10 _ rfl)
  have HBS : Hid (∀ W', Below W.heap.size W W' → Calls Try.prog 120 #[.slice s.C m s.cc, .string (strOf x)] W' fun e w' => ∃ (i : Nat) (is : Bool), e = .returned (.tuple #[.int .i64 i, .bool is]) ∧ Fnd s.ch x i is ∧ Below W'.heap.size W' w') := Lib.hid fun W' h => by
    rw [hm]
    exact bsearch_any s.cc s.ch s.C x W' hcl ((hsN.R.ch.since h).more h.size) HK.out.2.2.2.2.2.1
  have HDE : Hid (∀ (W' : World) (j : Nat), Below W.heap.size W W' → j < m → Calls Try.prog 123 #[.slice s.C m s.cc, .int .i64 j, .int .i64 ((j : Int) + 1)] W' fun e w' =>
      e = .returned (.slice s.C (m - 1) s.cc) ∧ w'.ownsRow base 9 1 (.slice s.C (m - 1) s.cc) (m - 1) (strs (s.ch.eraseIdx j)) ∧ Only (rowOf (.slice s.C 0 0)) W' w') := Lib.hid fun W' j h hj => by
    have ho : W'.ownsRow base 9 1 (.slice s.C m s.cc) m (strs s.ch) := by rw [hm]; exact row_of hsN.own fun q hq => h.block q (row_under hsN.own q hq)
    exact del_any base j m s.cc s.C s.ch W' (Nat.le_trans HK.out.2.2.1 h.size) ho hj (by omega)
  have hsw : ∀ q, q ∈ rowOf (.slice s.C 0 0) → q ≠ gS' ∧ base ≤ q := fun q hq => by
    obtain ⟨c2, kb⟩ := hsN.ty hq
    obtain ⟨c3, kS⟩ := own_ty HK.out.2.1.own (k := gS') (by rw [HSG.out.1]; simp [rowOf, Value.ownBlock])
    exact ⟨kb.ne_ kS (by decide), row_over hsN.own q (by rw [row_slice s.C s.ch.length s.cc 0 0]; exact hq)⟩
  have HSW := Lib.hid (And.intro hsw (And.intro hgw (And.intro hm hcl)))
  have HV : Hid (c.v.sn[i]? = some s.v) := Lib.hid (by show (c.sn.map SA.v)[i]? = _; rw [List.getElem?_map, HSG.out.2]; rfl)
  clear hsw hgw hm hcl hcc hS' hsN
  have hS : Below W.heap.size W W4.drew := HS1.out.drew
  refine any_beginL (fun W' => Below W.heap.size W W') 99 (by kernel_rfl) ?_
  refine S_take (i := 0) (v := .pointer (some ⟨gS', i * 11, none⟩)) rfl rfl (by kernel_rfl) (by kernel_rfl) (by kernel_rfl) (fun _ _ _ h => h) (Or.inl ⟨by rfl, fun W' hw => by go_simp⟩) hS ?_
  simp only [Act.put, List.getElem_toArray, List.getElem_cons_succ, List.getElem_cons_zero, List.setIfInBounds_toArray, List.set_cons_zero, List.set_cons_succ]
  refine S_take (i := 1) (v := .pointer (some ⟨gS', i * 11, none⟩)) rfl rfl (by kernel_rfl) (by kernel_rfl) (by kernel_rfl) (fun _ _ _ h => h) (Or.inl ⟨by rfl, fun W' hw => by go_simp⟩) hS ?_
  simp only [Act.put, List.getElem_toArray, List.getElem_cons_succ, List.getElem_cons_zero, List.setIfInBounds_toArray, List.set_cons_zero, List.set_cons_succ]
  refine S_take (i := 2) (v := .pointer (some ⟨gS', i * 11 + 10, none⟩)) rfl rfl (by kernel_rfl) (by kernel_rfl) (by kernel_rfl) (fun _ _ _ h => h) (Or.inl ⟨by rfl, fun W' hw => by go_simp⟩) hS ?_
  simp only [Act.put, List.getElem_toArray, List.getElem_cons_succ, List.getElem_cons_zero, List.setIfInBounds_toArray, List.set_cons_zero, List.set_cons_succ]
  refine S_take (i := 3) (v := .slice s.C m s.cc) rfl rfl (by kernel_rfl) (by kernel_rfl) (by kernel_rfl) (fun _ _ _ h => h) (Or.inl ⟨by rfl, fun W' hw => by have k1 := H10.out _ hw; go_simp⟩) hS ?_
  simp only [Act.put, List.getElem_toArray, List.getElem_cons_succ, List.getElem_cons_zero, List.setIfInBounds_toArray, List.set_cons_zero, List.set_cons_succ]
  refine S_take (i := 4) (v := .string (strOf x)) rfl rfl (by kernel_rfl) (by kernel_rfl) (by kernel_rfl) (fun _ _ _ h => h) (Or.inl ⟨by rfl, fun W' hw => by have k1 := HKX.out _ hw; go_simp⟩) hS ?_
  simp only [Act.put, List.getElem_toArray, List.getElem_cons_succ, List.getElem_cons_zero, List.setIfInBounds_toArray, List.set_cons_zero, List.set_cons_succ]
  refine L_one (j := 5) (by kernel_rfl) rfl (by rfl) ?_
  simp only [Act.put, List.getElem_toArray, List.getElem_cons_succ, List.getElem_cons_zero, List.setIfInBounds_toArray, List.set_cons_zero, List.set_cons_succ]
  refine wp_called (by go_simp) (HBS.out _ hS) ?_
  rintro e w2 ⟨jx, is, rfl, hf, b2⟩
  have hS := hS.trans (b2.mono hS.size)
  have HF := Lib.hid hf
  clear b2 hf
  refine ⟨_, rfl, hS, ?_⟩
  simp only [Act.put, List.getElem_toArray, List.getElem_cons_succ, List.getElem_cons_zero, List.setIfInBounds_toArray, List.set_cons_zero, List.set_cons_succ]
  refine S_take (i := 6) (v := .tuple #[.int .i64 jx, .bool is]) rfl rfl (by kernel_rfl) (by kernel_rfl) (by kernel_rfl) (fun _ _ _ h => h) (Or.inl ⟨by rfl, fun W' hw => by go_simp⟩) hS ?_
  simp only [Act.put, List.getElem_toArray, List.getElem_cons_succ, List.getElem_cons_zero, List.setIfInBounds_toArray, List.set_cons_zero, List.set_cons_succ]
  refine S_take (i := 7) (v := .int .i64 jx) rfl rfl (by kernel_rfl) (by kernel_rfl) (by kernel_rfl) (fun _ _ _ h => h) (Or.inl ⟨by rfl, fun W' hw => by go_simp⟩) hS ?_
  simp only [Act.put, List.getElem_toArray, List.getElem_cons_succ, List.getElem_cons_zero, List.setIfInBounds_toArray, List.set_cons_zero, List.set_cons_succ]
  refine S_take (i := 8) (v := .bool is) rfl rfl (by kernel_rfl) (by kernel_rfl) (by kernel_rfl) (fun _ _ _ h => h) (Or.inl ⟨by rfl, fun W' hw => by go_simp⟩) hS ?_
  simp only [Act.put, List.getElem_toArray, List.getElem_cons_succ, List.getElem_cons_zero, List.setIfInBounds_toArray, List.set_cons_zero, List.set_cons_succ]
  refine S_take (i := 9) (v := .int .i64 jx) rfl rfl (by kernel_rfl) (by kernel_rfl) (by kernel_rfl) (fun _ _ _ h => h) (Or.inl ⟨by rfl, fun W' hw => by go_simp⟩) hS ?_
  simp only [Act.put, List.getElem_toArray, List.getElem_cons_succ, List.getElem_cons_zero, List.setIfInBounds_toArray, List.set_cons_zero, List.set_cons_succ]
  refine S_take (i := 10) (v := .bool is) rfl rfl (by kernel_rfl) (by kernel_rfl) (by kernel_rfl) (fun _ _ _ h => h) (Or.inl ⟨by rfl, fun W' hw => by go_simp⟩) hS ?_
  simp only [Act.put, List.getElem_toArray, List.getElem_cons_succ, List.getElem_cons_zero, List.setIfInBounds_toArray, List.set_cons_zero, List.set_cons_succ]
  refine L_done (by kernel_rfl) ?_
  refine NoPanic.normal ?_
  have HB2 := Lib.hid hS
  clear hS
  cases is with
  | false =>
    go_wp2
    go_ret
    exact ⟨Frm.of (HB2.out.mono HK.out.2.2.1), .inl ⟨6, rfl, by omega, .inr ⟨i, s.v, HIX.out, HV.out, ⟨jx, HF.out⟩, rfl⟩⟩⟩
  | true =>
  have hjm : jx < m := by
    have h := of_decide_eq_true HF.out.is.symm
    rw [HSW.out.2.2.1]
    exact (List.getElem?_eq_some_iff.1 h).1
  have hwj : IntKind.i64.wrap ((jx : Int) + 1) = (jx : Int) + 1 := by have := HSW.out.2.2.1; have := HSW.out.2.2.2; rw [IntKind.wrap_i64]; omega
  have HJM := Lib.hid hjm
  clear hjm
  have q10 := H10.out _ HB2.out
  go_wp2_with fail
  refine (HDE.out w2 jx HB2.out HJM.out).mono ?_
  rintro e w5 ⟨rfl, ho5, o5⟩
  clear q10
  have oW : Only (rowOf (.slice s.C 0 0)) W w5 := (Only.of_below HB2.out _).trans o5 (fun k h => .inl h)
  have H5' := Lib.hid (And.intro ho5 oW)
  clear ho5 oW o5
  have HOS : Hid (w5.ownsRow base 66 11 (.slice (some ⟨gS', 0, none⟩) c.sn.length c.cs') c.sn.length (c.sn.flatMap SA.cells)) := Lib.hid (by
    have := HK.out.2.1.own
    rw [HSG.out.1] at this
    exact row_of this fun q hq => H5'.out.2.block q (row_under this q hq) (fun hm => by
      obtain rfl : q = gS' := by simpa [rowOf, Value.ownBlock] using hq
      exact (HSW.out.1 _ hm).1 rfl))
  have hlt : i < c.sn.length := (List.getElem?_eq_some_iff.1 HSG.out.2).1
  go_wp2_with (have _h := HOS; refine wpList_setrow rfl 64 (.tmp 45) (.tmp 43) rfl gS' (i * 11 + 10) 66 base 11 c.sn.length c.cs' (c.sn.flatMap SA.cells) (.slice s.C (m - 1) s.cc) rfl rfl HOS.out (by rw [flat_len11]; omega) (by kernel_rfl) rfl ?_; clear _h HOS; intro w9 K9 o9 s9)
  have H9 := Lib.hid (And.intro K9 (And.intro o9 s9))
  clear K9 o9 s9 hlt
  go_ret
  have hcl : (s.ch.eraseIdx jx).length = m - 1 := by have e := HSW.out.2.2.1; have h := HJM.out; rw [List.length_eraseIdx, if_pos (by omega)]; omega
  refine (does_kids (C' := s.C) (c' := s.cc) (ch' := s.ch.eraseIdx jx) (k := i) HK.out.2.2.1 HK.out.1 HK.out.2.1 HK.out.2.2.2.2.1 HSG.out.1 HSG.out.2 H5'.out.2 ?_ ?_ H9.out.2.1 ?_ ?_).2
  · rw [hcl]
    exact H5'.out.1
  · intro y hy
    exact (HK.out.2.1.sn s (List.mem_of_getElem? HSG.out.2)).ok y (List.mem_of_mem_eraseIdx hy)
  · rw [hcl]
    exact H9.out.1
  · exact ⟨i, s.v, HIX.out, HV.out, jx, HF.out, rfl⟩
end Go.Proofs.Ytiimanoloedbeaa

/-
  AddChild, DropChild: what they answer. Conditions: the head reads as it is said to, and is small.
-/
namespace Go.Proofs.Ytiimanoloedbeaa
open Go.RowKit Go.BigFrame
set_option linter.unusedSimpArgs false
set_option linter.unusedVariables false
set_option maxRecDepth 100000
theorem kids_small {c h : HA} (hcv : c.v = h.v) (hS : h.Sm) : ∀ s ∈ c.sn, s.ch.length ≤ 1000000 := fun s hs => by
  have e : c.sn.map SA.v = h.sn.map SA.v := congrArg HdV.sn hcv
  have hm : s.v ∈ h.sn.map SA.v := e ▸ List.mem_map.2 ⟨s, hs, rfl⟩
  obtain ⟨t, ht, hts⟩ := List.mem_map.1 hm
  have e2 : t.ch = s.ch := congrArg SnV.ch hts
  have := (hS.sn t ht).ch
  rw [← e2]; omega
theorem few_small {c h : HA} (hcv : c.v = h.v) (hS : h.Sm) : c.sn.length ≤ 1000 := by
  have e : c.sn.length = h.sn.length := by { have := congrArg (fun v => v.sn.length) hcv; simpa [HA.v] using this }
  have := hS.cn
  omega
set_option maxHeartbeats 16000000 in
theorem dropchild_any (h : HA) (w : World) (t : Int) (ht : I64 t) (x : List Nat) (hx : ∀ b ∈ x, b < 256) (hR : h.R SA.cells w) (hS : h.Sm) : Calls Try.prog 75 #[.agg h.cs, .int .i64 t, .string (strOf x)] w (AnsTo w h.v (fun k => DroE h.v t x k) (fun v => DroO h.v t x v)) := by
  obtain ⟨W1, hW1⟩ : ∃ W, W = (((w.alloc (.cells #[.int .i64 h.id, .int .i64 h.vw.size, .int .i64 h.obj, .int .i64 h.seq, .slice h.S h.sn.length h.cs', .bool h.vw.on, .bool h.vw.good, .slice h.vw.M h.vw.row.length h.vw.cm, .string (strOf h.vw.par), .int .i64 h.vw.ps, .int .i64 h.vw.ov, .int .i64 h.ow, .int .i64 h.it, .int .i64 h.tg] 36)).alloc (.cells #[.int .i64 t] 3)).alloc (.cells #[.string (strOf x)] 9)).alloc (.cells #[.int .i64 0, .int .i64 0, .int .i64 0, .int .i64 0, .slice none 0 0, .bool false, .bool false, .slice none 0 0, .string ⟨#[]⟩, .int .i64 0, .int .i64 0, .int .i64 0, .int .i64 0, .int .i64 0] 36) := ⟨_, rfl⟩
  have h1 : Below w.heap.size w W1 ∧ W1.heap.size = w.heap.size + 4 ∧ Blk W1 w.heap.size 36 #[.int .i64 h.id, .int .i64 h.vw.size, .int .i64 h.obj, .int .i64 h.seq, .slice h.S h.sn.length h.cs', .bool h.vw.on, .bool h.vw.good, .slice h.vw.M h.vw.row.length h.vw.cm, .string (strOf h.vw.par), .int .i64 h.vw.ps, .int .i64 h.vw.ov, .int .i64 h.ow, .int .i64 h.it, .int .i64 h.tg] ∧ Blk W1 (w.heap.size + 3) 36 #[.int .i64 0, .int .i64 0, .int .i64 0, .int .i64 0, .slice none 0 0, .bool false, .bool false, .slice none 0 0, .string ⟨#[]⟩, .int .i64 0, .int .i64 0, .int .i64 0, .int .i64 0, .int .i64 0] := by
    rw [hW1]
    refine ⟨((((below_alloc w _).alloc (by simp <;> omega) _).alloc (by simp <;> omega) _).alloc (by simp <;> omega) _), by simp, ((((Blk.new w _ _).alloc _).alloc _).alloc _), ?_⟩
    have := Blk.new (((w.alloc (.cells #[.int .i64 h.id, .int .i64 h.vw.size, .int .i64 h.obj, .int .i64 h.seq, .slice h.S h.sn.length h.cs', .bool h.vw.on, .bool h.vw.good, .slice h.vw.M h.vw.row.length h.vw.cm, .string (strOf h.vw.par), .int .i64 h.vw.ps, .int .i64 h.vw.ov, .int .i64 h.ow, .int .i64 h.it, .int .i64 h.tg] 36)).alloc (.cells #[.int .i64 t] 3)).alloc (.cells #[.string (strOf x)] 9)) 36 #[.int .i64 0, .int .i64 0, .int .i64 0, .int .i64 0, .slice none 0 0, .bool false, .bool false, .slice none 0 0, .string ⟨#[]⟩, .int .i64 0, .int .i64 0, .int .i64 0, .int .i64 0, .int .i64 0]
    simpa using this
  have p0 : Blk W1 (w.heap.size + 1) 3 #[.int .i64 t] := by
    have := Blk.new (w.alloc (.cells #[.int .i64 h.id, .int .i64 h.vw.size, .int .i64 h.obj, .int .i64 h.seq, .slice h.S h.sn.length h.cs', .bool h.vw.on, .bool h.vw.good, .slice h.vw.M h.vw.row.length h.vw.cm, .string (strOf h.vw.par), .int .i64 h.vw.ps, .int .i64 h.vw.ov, .int .i64 h.ow, .int .i64 h.it, .int .i64 h.tg] 36)) 3 #[.int .i64 t]
    rw [hW1]
    exact (((by simpa using this : Blk ((w.alloc (.cells #[.int .i64 h.id, .int .i64 h.vw.size, .int .i64 h.obj, .int .i64 h.seq, .slice h.S h.sn.length h.cs', .bool h.vw.on, .bool h.vw.good, .slice h.vw.M h.vw.row.length h.vw.cm, .string (strOf h.vw.par), .int .i64 h.vw.ps, .int .i64 h.vw.ov, .int .i64 h.ow, .int .i64 h.it, .int .i64 h.tg] 36)).alloc (.cells #[.int .i64 t] 3)) (w.heap.size + 1) 3 #[.int .i64 t]).alloc _).alloc _)
  have p1 : Blk W1 (w.heap.size + 2) 9 #[.string (strOf x)] := by
    have := Blk.new ((w.alloc (.cells #[.int .i64 h.id, .int .i64 h.vw.size, .int .i64 h.obj, .int .i64 h.seq, .slice h.S h.sn.length h.cs', .bool h.vw.on, .bool h.vw.good, .slice h.vw.M h.vw.row.length h.vw.cm, .string (strOf h.vw.par), .int .i64 h.vw.ps, .int .i64 h.vw.ov, .int .i64 h.ow, .int .i64 h.it, .int .i64 h.tg] 36)).alloc (.cells #[.int .i64 t] 3)) 9 #[.string (strOf x)]
    rw [hW1]
    exact ((by simpa using this : Blk (((w.alloc (.cells #[.int .i64 h.id, .int .i64 h.vw.size, .int .i64 h.obj, .int .i64 h.seq, .slice h.S h.sn.length h.cs', .bool h.vw.on, .bool h.vw.good, .slice h.vw.M h.vw.row.length h.vw.cm, .string (strOf h.vw.par), .int .i64 h.vw.ps, .int .i64 h.vw.ov, .int .i64 h.ow, .int .i64 h.it, .int .i64 h.tg] 36)).alloc (.cells #[.int .i64 t] 3)).alloc (.cells #[.string (strOf x)] 9)) (w.heap.size + 2) 9 #[.string (strOf x)]).alloc _)
  have HCH := Lib.hid (change_any h W1 (hR.since h1.1) hS 122 (fun args w => by kernel_rfl) #[.pointer (some ⟨w.heap.size + 1, 0, none⟩), .pointer (some ⟨w.heap.size + 2, 0, none⟩)] [] (fun k hk => by cases hk) (fun k _ => DroE h.v t x k) (fun v _ => DroO h.v t x v) (fun _ _ _ _ p => p) (fun _ _ _ _ p => p) (fun W base g c hb1 hb2 hbw hg hk hN hD hcv hB => by
    rw [← hcv]; exact drop1_any W base g (w.heap.size + 1) (w.heap.size + 2) c t x hb2 hg hk hN hD (few_small hcv hS) (kids_small hcv hS) ht hx (by have := h1.2.1; omega) (by have := h1.2.1; omega) ((p0.of (hbw.block _ p0.lt)).cell 0) ((p1.of (hbw.block _ p1.lt)).cell 0)))
  have HW1 := Lib.hid hW1
  have H1 := Lib.hid h1
  clear hW1 h1 hR hS p0 p1
  unfold HA.cs at *
  have hz := head_zero
  go_enter Try.func75, Try.ntmps75
  go_upto_region 1 with (fail)
  rw [← HW1.out]
  clear HW1
  have K1 := H1.out.2.2.1
  go_wp2_with (have _h := K1; refine wpList_loadq rfl 36 (.tmp 3) rfl (w.heap.size) [.int .i64 h.id, .int .i64 h.vw.size, .int .i64 h.obj, .int .i64 h.seq, .slice h.S h.sn.length h.cs', .bool h.vw.on, .bool h.vw.good, .slice h.vw.M h.vw.row.length h.vw.cm, .string (strOf h.vw.par), .int .i64 h.vw.ps, .int .i64 h.vw.ov, .int .i64 h.ow, .int .i64 h.it, .int .i64 h.tg] _ rfl K1 Try.underlying36 rfl (by kernel_rfl) ?_; clear _h K1)
  refine HCH.out.mono ?_
  rintro e w2 ⟨f2, h2⟩
  have b2 : Below W1.heap.size W1 w2 := f2.below
  have K2 : Blk w2 (w.heap.size + 3) 36 #[.int .i64 0, .int .i64 0, .int .i64 0, .int .i64 0, .slice none 0 0, .bool false, .bool false, .slice none 0 0, .string ⟨#[]⟩, .int .i64 0, .int .i64 0, .int .i64 0, .int .i64 0, .int .i64 0] := H1.out.2.2.2.of (b2.block _ H1.out.2.2.2.lt)
  have HB2 : Hid (Below w.heap.size w w2) := Lib.hid (H1.out.1.trans (b2.mono H1.out.1.size))
  have hz2 := HB2.out.size
  have HR2 := Lib.hid K2
  clear b2 f2 HCH
  rcases h2 with ⟨hB, rfl⟩ | ⟨hB, k, rfl, hk0, hpe⟩ | ⟨hB, q, rfl, hqN, hpo⟩
  · have HH := Lib.hid hB
    clear hB
    simp only [errV, Z14]
    go_wp2_with (have _h := K2; refine wpList_storeq rfl 36 (.tmp 6) (.tmp 11) rfl (w.heap.size + 3) _ [.int .i64 0, .int .i64 0, .int .i64 0, .int .i64 0, .slice none 0 0, .bool false, .bool false, .slice none 0 0, .string ⟨#[]⟩, .int .i64 0, .int .i64 0, .int .i64 0, .int .i64 0, .int .i64 0] rfl rfl K2 (by simp) (by kernel_rfl) (one14 _ _ _ _ _ _ _ _ _ _ _ _ _ _ _ _ _ _) ?_; clear _h K2; intro w9 K9 o9 s9)
    refine bodyPost_ret (results_cell_tmp9 rfl _ _ (w.heap.size + 3) 36 _ (0, 0) _ _ rfl rfl K9 Try.underlying36 rfl (by kernel_rfl)) rfl ?_
    exact ⟨HB2.out.trans (o9.below (fun x hx => by simp at hx; omega) hz2), .inl ⟨HH.out, rfl⟩⟩
  · obtain ⟨k, rfl⟩ : ∃ k', k = k' + 1 := ⟨k - 1, by omega⟩
    have HH := Lib.hid (And.intro hB hpe)
    clear hB hpe hk0
    simp only [errV, Z14]
    go_wp2_with (have _h := K2; refine wpList_storeq rfl 36 (.tmp 6) (.tmp 11) rfl (w.heap.size + 3) _ [.int .i64 0, .int .i64 0, .int .i64 0, .int .i64 0, .slice none 0 0, .bool false, .bool false, .slice none 0 0, .string ⟨#[]⟩, .int .i64 0, .int .i64 0, .int .i64 0, .int .i64 0, .int .i64 0] rfl rfl K2 (by simp) (by kernel_rfl) (one14 _ _ _ _ _ _ _ _ _ _ _ _ _ _ _ _ _ _) ?_; clear _h K2; intro w9 K9 o9 s9)
    refine bodyPost_ret (results_cell_tmp9 rfl _ _ (w.heap.size + 3) 36 _ (0, 0) _ _ rfl rfl K9 Try.underlying36 rfl (by kernel_rfl)) rfl ?_
    exact ⟨HB2.out.trans (o9.below (fun x hx => by simp at hx; omega) hz2), .inr (.inl ⟨HH.out.1, k + 1, rfl, by omega, HH.out.2⟩)⟩
  · have HH := Lib.hid (And.intro hB (And.intro hqN hpo))
    clear hB hqN hpo
    unfold HA.cs
    go_wp2_with (have _h := K2; refine wpList_storeq rfl 36 (.tmp 6) (.tmp 11) rfl (w.heap.size + 3) _ [.int .i64 q.id, .int .i64 q.vw.size, .int .i64 q.obj, .int .i64 q.seq, .slice q.S q.sn.length q.cs', .bool q.vw.on, .bool q.vw.good, .slice q.vw.M q.vw.row.length q.vw.cm, .string (strOf q.vw.par), .int .i64 q.vw.ps, .int .i64 q.vw.ov, .int .i64 q.ow, .int .i64 q.it, .int .i64 q.tg] rfl rfl K2 (by simp) (by kernel_rfl) (one14 _ _ _ _ _ _ _ _ _ _ _ _ _ _ _ _ _ _) ?_; clear _h K2; intro w9 K9 o9 s9)
    refine bodyPost_ret (results_cell_tmp9 rfl _ _ (w.heap.size + 3) 36 _ (0, 0) _ _ rfl rfl K9 Try.underlying36 rfl (by kernel_rfl)) rfl ?_
    exact ⟨HB2.out.trans (o9.below (fun x hx => by simp at hx; omega) hz2), .inr (.inr ⟨HH.out.1, q, rfl, (HH.out.2.1.stay HR2.out o9).weaken (by have := H1.out.2.1; omega), HH.out.2.2⟩)⟩
set_option maxHeartbeats 16000000 in
theorem addchild_any (h : HA) (w : World) (n x : List Nat) (hn : ∀ b ∈ n, b < 256) (hx : ∀ b ∈ x, b < 256) (hxl : x.length ≤ 1000000) (hR : h.R SA.cells w) (hS : h.Sm) : Calls Try.prog 74 #[.agg h.cs, .string (strOf n), .string (strOf x)] w (AnsTo w h.v (fun k => ChsEP h.v n (AddE x) k) (fun v => ChsOP h.v n (fun i s v => ∃ s', AddO x s s' ∧ v = h.v.setSn i s') v)) := by
  obtain ⟨W1, hW1⟩ : ∃ W, W = ((w.alloc (.cells #[.int .i64 h.id, .int .i64 h.vw.size, .int .i64 h.obj, .int .i64 h.seq, .slice h.S h.sn.length h.cs', .bool h.vw.on, .bool h.vw.good, .slice h.vw.M h.vw.row.length h.vw.cm, .string (strOf h.vw.par), .int .i64 h.vw.ps, .int .i64 h.vw.ov, .int .i64 h.ow, .int .i64 h.it, .int .i64 h.tg] 36)).alloc (.cells #[.string (strOf x)] 9)).alloc (.cells #[.int .i64 0, .int .i64 0, .int .i64 0, .int .i64 0, .slice none 0 0, .bool false, .bool false, .slice none 0 0, .string ⟨#[]⟩, .int .i64 0, .int .i64 0, .int .i64 0, .int .i64 0, .int .i64 0] 36) := ⟨_, rfl⟩
  have h1 : Below w.heap.size w W1 ∧ W1.heap.size = w.heap.size + 3 ∧ Blk W1 w.heap.size 36 #[.int .i64 h.id, .int .i64 h.vw.size, .int .i64 h.obj, .int .i64 h.seq, .slice h.S h.sn.length h.cs', .bool h.vw.on, .bool h.vw.good, .slice h.vw.M h.vw.row.length h.vw.cm, .string (strOf h.vw.par), .int .i64 h.vw.ps, .int .i64 h.vw.ov, .int .i64 h.ow, .int .i64 h.it, .int .i64 h.tg] ∧ Blk W1 (w.heap.size + 2) 36 #[.int .i64 0, .int .i64 0, .int .i64 0, .int .i64 0, .slice none 0 0, .bool false, .bool false, .slice none 0 0, .string ⟨#[]⟩, .int .i64 0, .int .i64 0, .int .i64 0, .int .i64 0, .int .i64 0] := by
    rw [hW1]
    refine ⟨(((below_alloc w _).alloc (by simp <;> omega) _).alloc (by simp <;> omega) _), by simp, (((Blk.new w _ _).alloc _).alloc _), ?_⟩
    have := Blk.new ((w.alloc (.cells #[.int .i64 h.id, .int .i64 h.vw.size, .int .i64 h.obj, .int .i64 h.seq, .slice h.S h.sn.length h.cs', .bool h.vw.on, .bool h.vw.good, .slice h.vw.M h.vw.row.length h.vw.cm, .string (strOf h.vw.par), .int .i64 h.vw.ps, .int .i64 h.vw.ov, .int .i64 h.ow, .int .i64 h.it, .int .i64 h.tg] 36)).alloc (.cells #[.string (strOf x)] 9)) 36 #[.int .i64 0, .int .i64 0, .int .i64 0, .int .i64 0, .slice none 0 0, .bool false, .bool false, .slice none 0 0, .string ⟨#[]⟩, .int .i64 0, .int .i64 0, .int .i64 0, .int .i64 0, .int .i64 0]
    simpa using this
  have p0 : Blk W1 (w.heap.size + 1) 9 #[.string (strOf x)] := by
    have := Blk.new (w.alloc (.cells #[.int .i64 h.id, .int .i64 h.vw.size, .int .i64 h.obj, .int .i64 h.seq, .slice h.S h.sn.length h.cs', .bool h.vw.on, .bool h.vw.good, .slice h.vw.M h.vw.row.length h.vw.cm, .string (strOf h.vw.par), .int .i64 h.vw.ps, .int .i64 h.vw.ov, .int .i64 h.ow, .int .i64 h.it, .int .i64 h.tg] 36)) 9 #[.string (strOf x)]
    rw [hW1]
    exact ((by simpa using this : Blk ((w.alloc (.cells #[.int .i64 h.id, .int .i64 h.vw.size, .int .i64 h.obj, .int .i64 h.seq, .slice h.S h.sn.length h.cs', .bool h.vw.on, .bool h.vw.good, .slice h.vw.M h.vw.row.length h.vw.cm, .string (strOf h.vw.par), .int .i64 h.vw.ps, .int .i64 h.vw.ov, .int .i64 h.ow, .int .i64 h.it, .int .i64 h.tg] 36)).alloc (.cells #[.string (strOf x)] 9)) (w.heap.size + 1) 9 #[.string (strOf x)]).alloc _)
  have HCH := Lib.hid (changeSnap_any h W1 n hn 119 (fun args w => by kernel_rfl) #[.pointer (some ⟨w.heap.size + 1, 0, none⟩)] (AddE x) (fun i s v => ∃ s', AddO x s s' ∧ v = h.v.setSn i s') (fun W2 base h12 hb2 => fun W g gS k c s h0 hb hg kg hN hD hcv hSg hs => by
    rw [← hcv]
    exact add1_any W base g gS (w.heap.size + 1) k c s x hb hg kg hN hD hSg hs hx hxl (kids_small hcv hS s (List.mem_of_getElem? hs)) (by have := h12.size; have := h1.2.1; omega) (((p0.of (h12.block _ p0.lt)).of (h0.block _ (Nat.lt_of_lt_of_le p0.lt h12.size))).cell 0)) (hR.since h1.1) hS)
  have HW1 := Lib.hid hW1
  have H1 := Lib.hid h1
  clear hW1 h1 hR hS p0
  unfold HA.cs at *
  have hz := head_zero
  go_enter Try.func74, Try.ntmps74
  go_upto_region 1 with (fail)
  rw [← HW1.out]
  clear HW1
  have K1 := H1.out.2.2.1
  go_wp2_with (have _h := K1; refine wpList_loadq rfl 36 (.tmp 3) rfl (w.heap.size) [.int .i64 h.id, .int .i64 h.vw.size, .int .i64 h.obj, .int .i64 h.seq, .slice h.S h.sn.length h.cs', .bool h.vw.on, .bool h.vw.good, .slice h.vw.M h.vw.row.length h.vw.cm, .string (strOf h.vw.par), .int .i64 h.vw.ps, .int .i64 h.vw.ov, .int .i64 h.ow, .int .i64 h.it, .int .i64 h.tg] _ rfl K1 Try.underlying36 rfl (by kernel_rfl) ?_; clear _h K1)
  refine HCH.out.mono ?_
  rintro e w2 ⟨b2, h2⟩
  have K2 : Blk w2 (w.heap.size + 2) 36 #[.int .i64 0, .int .i64 0, .int .i64 0, .int .i64 0, .slice none 0 0, .bool false, .bool false, .slice none 0 0, .string ⟨#[]⟩, .int .i64 0, .int .i64 0, .int .i64 0, .int .i64 0, .int .i64 0] := H1.out.2.2.2.of (b2.block _ H1.out.2.2.2.lt)
  have HB2 : Hid (Below w.heap.size w w2) := Lib.hid (H1.out.1.trans (b2.mono H1.out.1.size))
  have hz2 := HB2.out.size
  have HR2 := Lib.hid K2
  clear b2 HCH
  rcases h2 with ⟨hB, rfl⟩ | ⟨hB, k, rfl, hk0, hpe⟩ | ⟨hB, q, rfl, hqN, hpo⟩
  · have HH := Lib.hid hB
    clear hB
    simp only [errV, Z14]
    go_wp2_with (have _h := K2; refine wpList_storeq rfl 36 (.tmp 6) (.tmp 12) rfl (w.heap.size + 2) _ [.int .i64 0, .int .i64 0, .int .i64 0, .int .i64 0, .slice none 0 0, .bool false, .bool false, .slice none 0 0, .string ⟨#[]⟩, .int .i64 0, .int .i64 0, .int .i64 0, .int .i64 0, .int .i64 0] rfl rfl K2 (by simp) (by kernel_rfl) (one14 _ _ _ _ _ _ _ _ _ _ _ _ _ _ _ _ _ _) ?_; clear _h K2; intro w9 K9 o9 s9)
    refine bodyPost_ret (results_cell_tmp9 rfl _ _ (w.heap.size + 2) 36 _ (0, 0) _ _ rfl rfl K9 Try.underlying36 rfl (by kernel_rfl)) rfl ?_
    exact ⟨HB2.out.trans (o9.below (fun x hx => by simp at hx; omega) hz2), .inl ⟨HH.out, rfl⟩⟩
  · obtain ⟨k, rfl⟩ : ∃ k', k = k' + 1 := ⟨k - 1, by omega⟩
    have HH := Lib.hid (And.intro hB hpe)
    clear hB hpe hk0
    simp only [errV, Z14]
    go_wp2_with (have _h := K2; refine wpList_storeq rfl 36 (.tmp 6) (.tmp 12) rfl (w.heap.size + 2) _ [.int .i64 0, .int .i64 0, .int .i64 0, .int .i64 0, .slice none 0 0, .bool false, .bool false, .slice none 0 0, .string ⟨#[]⟩, .int .i64 0, .int .i64 0, .int .i64 0, .int .i64 0, .int .i64 0] rfl rfl K2 (by simp) (by kernel_rfl) (one14 _ _ _ _ _ _ _ _ _ _ _ _ _ _ _ _ _ _) ?_; clear _h K2; intro w9 K9 o9 s9)
    refine bodyPost_ret (results_cell_tmp9 rfl _ _ (w.heap.size + 2) 36 _ (0, 0) _ _ rfl rfl K9 Try.underlying36 rfl (by kernel_rfl)) rfl ?_
    exact ⟨HB2.out.trans (o9.below (fun x hx => by simp at hx; omega) hz2), .inr (.inl ⟨HH.out.1, k + 1, rfl, by omega, HH.out.2⟩)⟩
  · have HH := Lib.hid (And.intro hB (And.intro hqN hpo))
    clear hB hqN hpo
    unfold HA.cs
    go_wp2_with (have _h := K2; refine wpList_storeq rfl 36 (.tmp 6) (.tmp 12) rfl (w.heap.size + 2) _ [.int .i64 q.id, .int .i64 q.vw.size, .int .i64 q.obj, .int .i64 q.seq, .slice q.S q.sn.length q.cs', .bool q.vw.on, .bool q.vw.good, .slice q.vw.M q.vw.row.length q.vw.cm, .string (strOf q.vw.par), .int .i64 q.vw.ps, .int .i64 q.vw.ov, .int .i64 q.ow, .int .i64 q.it, .int .i64 q.tg] rfl rfl K2 (by simp) (by kernel_rfl) (one14 _ _ _ _ _ _ _ _ _ _ _ _ _ _ _ _ _ _) ?_; clear _h K2; intro w9 K9 o9 s9)
    refine bodyPost_ret (results_cell_tmp9 rfl _ _ (w.heap.size + 2) 36 _ (0, 0) _ _ rfl rfl K9 Try.underlying36 rfl (by kernel_rfl)) rfl ?_
    exact ⟨HB2.out.trans (o9.below (fun x hx => by simp at hx; omega) hz2), .inr (.inr ⟨HH.out.1, q, rfl, (HH.out.2.1.stay HR2.out o9).weaken (by have := H1.out.2.1; omega), HH.out.2.2⟩)⟩
end Go.Proofs.Ytiimanoloedbeaa

/-
  Mark's closure. Conditions: the copy is the call's own; its marks are as many as its objects.
-/
namespace Go.Proofs.Ytiimanoloedbeaa
open Go.RowKit Go.BigFrame
set_option linter.unusedSimpArgs false
set_option linter.unusedVariables false
set_option maxRecDepth 100000
def MarE (v : HdV) (i : Int) (b : Nat) (k : Nat) : Prop := (i < 0 ∨ objsOf v.size v.obj ≤ i ∨ 3 < b) ∧ k = 1
def MarO (v : HdV) (i : Int) (b : Nat) (v' : HdV) : Prop := 0 ≤ i ∧ i < objsOf v.size v.obj ∧ b ≤ 3 ∧ v' = if v.mx.on then { v with mx := { v.mx with row := v.mx.row.set i.toNat b } } else v
set_option maxHeartbeats 16000000 in
theorem mark1_any (W : World) (base g gi gb : Nat) (c : HA) (i : Int) (b : Nat) (hb : base ≤ W.heap.size) (hg : base ≤ g) (k : Blk W g 36 c.cs) (hN : c.N W base []) (hdj : c.Dj) (hi : I64 i) (hb8 : b < 256) (hlen : c.vw.on = true → (c.vw.row.length : Int) = objsOf c.vw.size c.obj) (hml : c.vw.row.length ≤ 1000000) (hgi : gi < base) (hgb : gb < base)
    (ki : W.cell? ⟨gi, 0, none⟩ = some (.int .i64 i)) (kb : W.cell? ⟨gb, 0, none⟩ = some (.int .u8 (b : Int))) :
    Calls Try.prog 131 #[.pointer (some ⟨g, 0, none⟩), .pointer (some ⟨gi, 0, none⟩), .pointer (some ⟨gb, 0, none⟩)] W (DoesTo base [] g (fun k _ => MarE c.v i b k) (fun v _ => MarO c.v i b v) W) := by
  obtain ⟨N, hNN⟩ : ∃ N, N = objsOf c.vw.size c.obj := ⟨_, rfl⟩
  have HO : Hid (∀ w, Calls Try.prog 32 #[.int .i64 c.vw.size, .int .i64 c.obj] w fun e w' => e = .returned (.int .i64 N) ∧ w = w') := Lib.hid fun w => by rw [hNN]; exact objects_any c.vw.size c.obj hN.vw.size hN.obj w
  have HEQ : Hid (objsOf c.v.size c.v.obj = N) := Lib.hid hNN.symm
  have HLN : Hid (c.vw.on = true → (c.vw.row.length : Int) = N) := Lib.hid fun h => by rw [hNN]; exact hlen h
  have HB1 : Hid (∀ W', Below W.heap.size W W' → Blk W' g 36 #[.int .i64 c.id, .int .i64 c.vw.size, .int .i64 c.obj, .int .i64 c.seq, .slice c.S c.sn.length c.cs', .bool c.vw.on, .bool c.vw.good, .slice c.vw.M c.vw.row.length c.vw.cm, .string (strOf c.vw.par), .int .i64 c.vw.ps, .int .i64 c.vw.ov, .int .i64 c.ow, .int .i64 c.it, .int .i64 c.tg]) := Lib.hid fun W' hW' => by
    have k1 : Blk W g 36 #[.int .i64 c.id, .int .i64 c.vw.size, .int .i64 c.obj, .int .i64 c.seq, .slice c.S c.sn.length c.cs', .bool c.vw.on, .bool c.vw.good, .slice c.vw.M c.vw.row.length c.vw.cm, .string (strOf c.vw.par), .int .i64 c.vw.ps, .int .i64 c.vw.ov, .int .i64 c.ow, .int .i64 c.it, .int .i64 c.tg] := k
    exact k1.of (hW'.block _ k.lt)
  have HK2 := Lib.hid (And.intro hdj (And.intro hb8 (And.intro hgi (And.intro hgb hml))))
  have K0 : Blk W g 36 #[.int .i64 c.id, .int .i64 c.vw.size, .int .i64 c.obj, .int .i64 c.seq, .slice c.S c.sn.length c.cs', .bool c.vw.on, .bool c.vw.good, .slice c.vw.M c.vw.row.length c.vw.cm, .string (strOf c.vw.par), .int .i64 c.vw.ps, .int .i64 c.vw.ov, .int .i64 c.ow, .int .i64 c.it, .int .i64 c.tg] := k
  have HK := Lib.hid (And.intro k (And.intro hN (And.intro hb hg)))
  have HS : Hid (∀ n, Below base W (W.drewN n)) := Lib.hid fun n => ⟨rfl, rfl, rfl, Nat.le_refl _, fun _ _ => rfl⟩
  clear k hN hb hg hdj hb8 hgi hgb hml hlen hNN
  have q1 : W.cell? ⟨g, 1, none⟩ = some (.int .i64 c.vw.size) := K0.cell 1
  have q2 : W.cell? ⟨g, 2, none⟩ = some (.int .i64 c.obj) := K0.cell 2
  have q5 : W.cell? ⟨g, 5, none⟩ = some (.bool c.vw.on) := K0.cell 5
  go_enter Try.func131, Try.ntmps131
  by_cases c1 : i < 0
  · have d1 : decide (i < 0) = true := decide_eq_true c1
    have HC := Lib.hid c1
    clear c1
    go_upto_region 1 with (fail)
    go_quiet (fail)
    go_wp2
    go_ret
    exact ⟨Frm.of (HS.out nq), .inl ⟨1, rfl, by omega, .inl HC.out, rfl⟩⟩
  have d1 : decide (i < 0) = false := decide_eq_false c1
  have HC1 := Lib.hid c1
  clear c1
  by_cases c2 : N ≤ i
  · have d2 : decide (N ≤ i) = true := decide_eq_true c2
    have HC := Lib.hid c2
    clear c2
    go_upto_region 1 with (fail)
    go_quiet ((go_at_call 32; exact Calls.quiet_of_same ((HO.out _).mono fun e w' h => ⟨h.1, h.2.symm⟩)))
    go_wp2
    go_ret
    exact ⟨Frm.of (HS.out nq), .inl ⟨1, rfl, by omega, .inr (.inl (by rw [HEQ.out]; exact HC.out)), rfl⟩⟩
  have d2 : decide (N ≤ i) = false := decide_eq_false c2
  have HC2 := Lib.hid c2
  clear c2
  by_cases c3 : 3 < b
  · have d3 : decide ((3 : Int) < (b : Int)) = true := decide_eq_true (by omega)
    have HC := Lib.hid c3
    clear c3
    go_upto_region 1 with (fail)
    go_quiet ((go_at_call 32; exact Calls.quiet_of_same ((HO.out _).mono fun e w' h => ⟨h.1, h.2.symm⟩)))
    go_wp2
    go_ret
    exact ⟨Frm.of (HS.out nq), .inl ⟨1, rfl, by omega, .inr (.inr HC.out), rfl⟩⟩
  have d3 : decide ((3 : Int) < (b : Int)) = false := decide_eq_false (by omega)
  have HC3 := Lib.hid c3
  clear c3
  go_upto_region 1 with (fail)
  go_quiet ((go_at_call 32; exact Calls.quiet_of_same ((HO.out _).mono fun e w' h => ⟨h.1, h.2.symm⟩)))
  cases hon : c.vw.on with
  | false =>
    have HON := Lib.hid hon
    rw [hon] at q5
    clear hon K0
    go_wp2
    go_ret
    exact ⟨Frm.of (HS.out nq), .inr ⟨rfl, c, HK.out.1.of rfl, HK.out.2.1.drewN nq, by have := HC1.out; omega, by rw [HEQ.out]; have := HC2.out; omega, by have := HC3.out; omega, by rw [if_neg (by show ¬ c.vw.on = true; rw [HON.out]; simp)]⟩⟩
  | true =>
    have HON := Lib.hid hon
    obtain ⟨n, hin⟩ : ∃ n : Nat, i = (n : Int) := ⟨i.toNat, by have := HC1.out; omega⟩
    subst hin
    obtain ⟨m, hm⟩ : ∃ m, m = c.vw.row.length := ⟨_, rfl⟩
    have hlt : n < m := by have := HLN.out hon; have := HC2.out; omega
    obtain ⟨gM, hM⟩ : ∃ gM, c.vw.M = some ⟨gM, 0, none⟩ := by
      rcases HK.out.2.1.vw.own.2 with ⟨h, h0⟩ | ⟨g', cap, cur, hv, -⟩
      · omega
      · injection hv with h; exact ⟨g', h⟩
    have HM := Lib.hid (And.intro hM (And.intro hm hlt))
    have HB4 : Hid (∀ W', Below W.heap.size W W' → Blk W' g 36 #[.int .i64 c.id, .int .i64 c.vw.size, .int .i64 c.obj, .int .i64 c.seq, .slice c.S c.sn.length c.cs', .bool c.vw.on, .bool c.vw.good, .slice (some ⟨gM, 0, none⟩) m c.vw.cm, .string (strOf c.vw.par), .int .i64 c.vw.ps, .int .i64 c.vw.ov, .int .i64 c.ow, .int .i64 c.it, .int .i64 c.tg]) := Lib.hid fun W' h => by
      have := HB1.out W' h
      rw [hM, ← hm] at this
      exact this
    have HKI : Hid (∀ W', Below W.heap.size W W' → W'.cell? ⟨gi, 0, none⟩ = some (.int .i64 (n : Int)) ∧ W'.cell? ⟨gb, 0, none⟩ = some (.int .u8 (b : Int))) := Lib.hid fun W' h => ⟨(h.cell (by have := HK2.out.2.2.1; have := HK.out.2.2.1; show gi < _; omega)).trans ki, (h.cell (by have := HK2.out.2.2.2.1; have := HK.out.2.2.1; show gb < _; omega)).trans kb⟩
    rw [hon] at q5
    clear hon K0 hm hM ki kb
    go_upto_region 4 with (fail)
    have hB : Below W.heap.size W (W.drewN nq).drew := (below_drewN (Below.refl _ W) nq).drew
    refine any_beginL (fun W' => Blk W' g 36 #[.int .i64 c.id, .int .i64 c.vw.size, .int .i64 c.obj, .int .i64 c.seq, .slice c.S c.sn.length c.cs', .bool c.vw.on, .bool c.vw.good, .slice (some ⟨gM, 0, none⟩) m c.vw.cm, .string (strOf c.vw.par), .int .i64 c.vw.ps, .int .i64 c.vw.ov, .int .i64 c.ow, .int .i64 c.it, .int .i64 c.tg] ∧ W'.cell? ⟨gi, 0, none⟩ = some (.int .i64 (n : Int)) ∧ W'.cell? ⟨gb, 0, none⟩ = some (.int .u8 (b : Int))) 99 (by kernel_rfl) ?_
    generalize World.drew (World.drewN W nq) = w4 at *
    have hS : Blk w4 g 36 #[.int .i64 c.id, .int .i64 c.vw.size, .int .i64 c.obj, .int .i64 c.seq, .slice c.S c.sn.length c.cs', .bool c.vw.on, .bool c.vw.good, .slice (some ⟨gM, 0, none⟩) m c.vw.cm, .string (strOf c.vw.par), .int .i64 c.vw.ps, .int .i64 c.vw.ov, .int .i64 c.ow, .int .i64 c.it, .int .i64 c.tg] ∧ w4.cell? ⟨gi, 0, none⟩ = some (.int .i64 (n : Int)) ∧ w4.cell? ⟨gb, 0, none⟩ = some (.int .u8 (b : Int)) := ⟨HB4.out _ hB, HKI.out _ hB⟩
    have HBW := Lib.hid hB
    clear hB
    refine S_take (i := 0) (v := .pointer (some ⟨g, 0, none⟩)) rfl rfl (by kernel_rfl) (by kernel_rfl) (by kernel_rfl) (fun _ _ _ h => h) (Or.inl ⟨by rfl, fun W' hw => by go_simp⟩) hS ?_
    simp only [Act.put, List.getElem_toArray, List.getElem_cons_succ, List.getElem_cons_zero, List.setIfInBounds_toArray, List.set_cons_zero, List.set_cons_succ]
    refine S_take (i := 1) (v := .pointer (some ⟨g, 0, none⟩)) rfl rfl (by kernel_rfl) (by kernel_rfl) (by kernel_rfl) (fun _ _ _ h => h) (Or.inl ⟨by rfl, fun W' hw => by go_simp⟩) hS ?_
    simp only [Act.put, List.getElem_toArray, List.getElem_cons_succ, List.getElem_cons_zero, List.setIfInBounds_toArray, List.set_cons_zero, List.set_cons_succ]
    refine S_take (i := 2) (v := .pointer (some ⟨g, 7, none⟩)) rfl rfl (by kernel_rfl) (by kernel_rfl) (by kernel_rfl) (fun _ _ _ h => h) (Or.inl ⟨by rfl, fun W' hw => by go_simp⟩) hS ?_
    simp only [Act.put, List.getElem_toArray, List.getElem_cons_succ, List.getElem_cons_zero, List.setIfInBounds_toArray, List.set_cons_zero, List.set_cons_succ]
    refine S_take (i := 3) (v := .slice (some ⟨gM, 0, none⟩) m c.vw.cm) rfl rfl (by kernel_rfl) (by kernel_rfl) (by kernel_rfl) (fun _ _ _ h => h) (Or.inl ⟨by rfl, fun W' hw => by have k1 : W'.cell? ⟨g, 7, none⟩ = some (.slice (some ⟨gM, 0, none⟩) m c.vw.cm) := hw.1.cell 7; go_simp⟩) hS ?_
    simp only [Act.put, List.getElem_toArray, List.getElem_cons_succ, List.getElem_cons_zero, List.setIfInBounds_toArray, List.set_cons_zero, List.set_cons_succ]
    refine S_take (i := 4) (v := .int .i64 (n : Int)) rfl rfl (by kernel_rfl) (by kernel_rfl) (by kernel_rfl) (fun _ _ _ h => h) (Or.inl ⟨by rfl, fun W' hw => by have k1 := hw.2.1; go_simp⟩) hS ?_
    simp only [Act.put, List.getElem_toArray, List.getElem_cons_succ, List.getElem_cons_zero, List.setIfInBounds_toArray, List.set_cons_zero, List.set_cons_succ]
    refine S_take (i := 5) (v := .int .u8 (b : Int)) rfl rfl (by kernel_rfl) (by kernel_rfl) (by kernel_rfl) (fun _ _ _ h => h) (Or.inl ⟨by rfl, fun W' hw => by have k1 := hw.2.2; go_simp⟩) hS ?_
    simp only [Act.put, List.getElem_toArray, List.getElem_cons_succ, List.getElem_cons_zero, List.setIfInBounds_toArray, List.set_cons_zero, List.set_cons_succ]
    refine S_take (i := 6) (v := .pointer (some ⟨gM, n, none⟩)) rfl rfl (by kernel_rfl) (by kernel_rfl) (by kernel_rfl) (fun _ _ _ h => h) (Or.inl ⟨by rfl, fun W' hw => by go_simp⟩) hS ?_
    simp only [Act.put, List.getElem_toArray, List.getElem_cons_succ, List.getElem_cons_zero, List.setIfInBounds_toArray, List.set_cons_zero, List.set_cons_succ]
    refine L_one (j := 7) (by kernel_rfl) rfl (by rfl) ?_
    simp only [Act.put, List.getElem_toArray, List.getElem_cons_succ, List.getElem_cons_zero, List.setIfInBounds_toArray, List.set_cons_zero, List.set_cons_succ]
    have hOW : w4.ownsRow base 5 1 (.slice (some ⟨gM, 0, none⟩) m c.vw.cm) m (u8s c.vw.row) := by
      have h := HK.out.2.1.vw.own
      unfold Own at h
      rw [HM.out.1, ← HM.out.2.1] at h
      exact row_of h fun q hq => HBW.out.block q (row_under h q hq)
    have hge : base ≤ gM := (World.ownsRow.lt hOW gM rfl).1
    refine wp_setrow 5 (.tmp 35) (.tmp 34) rfl gM n 5 base 1 m c.vw.cm (u8s c.vw.row) (.int .u8 (b : Int)) rfl rfl hOW (by simp [u8s]; rw [← HM.out.2.1]; exact HM.out.2.2) (by kernel_rfl) rfl ?_
    intro w9 K9 o9 s9
    obtain ⟨csM, kM⟩ := own_ty hOW (k := gM) (by simp [rowOf, Value.ownBlock])
    have kg9 : Blk w9 g 36 #[.int .i64 c.id, .int .i64 c.vw.size, .int .i64 c.obj, .int .i64 c.seq, .slice c.S c.sn.length c.cs', .bool c.vw.on, .bool c.vw.good, .slice (some ⟨gM, 0, none⟩) m c.vw.cm, .string (strOf c.vw.par), .int .i64 c.vw.ps, .int .i64 c.vw.ov, .int .i64 c.ow, .int .i64 c.it, .int .i64 c.tg] := hS.1.only o9 (by intro hx; simp at hx; subst hx; exact hS.1.ne_ kM (by decide) rfl)
    have hS : Blk w9 g 36 #[.int .i64 c.id, .int .i64 c.vw.size, .int .i64 c.obj, .int .i64 c.seq, .slice c.S c.sn.length c.cs', .bool c.vw.on, .bool c.vw.good, .slice (some ⟨gM, 0, none⟩) m c.vw.cm, .string (strOf c.vw.par), .int .i64 c.vw.ps, .int .i64 c.vw.ov, .int .i64 c.ow, .int .i64 c.it, .int .i64 c.tg] ∧ w9.cell? ⟨gi, 0, none⟩ = some (.int .i64 (n : Int)) ∧ w9.cell? ⟨gb, 0, none⟩ = some (.int .u8 (b : Int)) := by
      have h1 := HK2.out.2.2.1
      have h2 := HK2.out.2.2.2.1
      have h3 := HK.out.2.2.1
      have h4 := HBW.out.size
      exact ⟨kg9, (o9.cell (by show gi < _; omega) (by simp; omega)).trans hS.2.1, (o9.cell (by show gb < _; omega) (by simp; omega)).trans hS.2.2⟩
    have H9 := Lib.hid (And.intro K9 (And.intro o9 (And.intro kg9 (And.intro kM hge))))
    clear K9 o9 s9 kg9 kM hge hOW
    refine ⟨hS, ?_⟩
    simp only [Act.put, List.getElem_toArray, List.getElem_cons_succ, List.getElem_cons_zero, List.setIfInBounds_toArray, List.set_cons_zero, List.set_cons_succ]
    refine L_done (by kernel_rfl) ?_
    refine NoPanic.normal ?_
    clear hS
    go_wp2
    go_ret
    have o9 := H9.out.2.1
    have kM := H9.out.2.2.2.1
    have hbw : Below base W w9 := (HBW.out.mono HK.out.2.2.1).trans (o9.below (fun q hq => by simp at hq; have := H9.out.2.2.2.2; omega) (Nat.le_trans HK.out.2.2.1 HBW.out.size))
    have hN4 := HK.out.2.1.below HBW.out
    have hnd := List.nodup_append.1 HK2.out.1.m
    have hsl : (c.vw.row.set n b).length = c.vw.row.length := by simp
    refine ⟨Frm.of hbw, .inr ⟨rfl, { c with vw := { c.vw with row := c.vw.row.set n b } }, ?_, ⟨⟨?_, fun _ _ h => (by cases h), fun y hy => ?_, hN4.vw.par, hN4.vw.size, hN4.vw.ps, hN4.vw.ov, hN4.vw.pl⟩, fun x hx => ?_, ?_, hN4.id, hN4.obj, hN4.seq, hN4.ow, hN4.it, hN4.tg⟩, ?_⟩⟩
    · have k := H9.out.2.2.1
      rw [HM.out.2.1, ← HM.out.1] at k
      unfold HA.cs
      simp only [hsl]
      exact k
    · have h := H9.out.1
      unfold Own
      show w9.ownsRow base 5 1 (.slice c.vw.M (c.vw.row.set n b).length c.vw.cm) (c.vw.row.set n b).length (u8s (c.vw.row.set n b))
      rw [hsl, HM.out.1, ← HM.out.2.1]
      have e : u8s (c.vw.row.set n b) = (u8s c.vw.row).set n (.int .u8 (b : Int)) := by unfold u8s; rw [List.map_set]; rfl
      rw [e]
      exact h
    · rcases List.mem_or_eq_of_mem_set hy with h | h
      · exact HK.out.2.1.vw.ok y h
      · rw [h]; exact HK2.out.2.1
    · have hxN := hN4.sn x hx
      exact hxN.of (fun q hq => o9.block q (hxN.vw.under hq) (fun hm => by
        simp at hm
        subst hm
        exact hnd.2.2 q (by rw [HM.out.1]; simp [rowOf, Value.ownBlock]) q (List.mem_flatMap.2 ⟨x, hx, hq⟩) rfl)) (fun q hq => o9.block q (hxN.under hq) (fun hm => by
        simp at hm
        subst hm
        obtain ⟨c2, k2⟩ := hxN.ty hq
        exact k2.ne_ kM (by decide) rfl))
    · exact row_of hN4.own fun q hq => o9.block q (row_under hN4.own q hq) (fun hm => by
        simp at hm
        subst hm
        obtain ⟨c2, k2⟩ := own_ty hN4.own hq
        exact k2.ne_ kM (by decide) rfl)
    · exact ⟨by omega, by rw [HEQ.out]; have := HC2.out; omega, by have := HC3.out; omega, by rw [if_pos (show c.v.mx.on = true from HON.out)]; rfl⟩
end Go.Proofs.Ytiimanoloedbeaa

/-
  Mark: what it answers. Conditions: the head reads as it is said to, and is small.
-/
namespace Go.Proofs.Ytiimanoloedbeaa
open Go.RowKit Go.BigFrame
set_option linter.unusedSimpArgs false
set_option linter.unusedVariables false
set_option maxRecDepth 100000
theorem marks_len {v : HdV} (h : v.B = true) (hon : v.mx.on = true) : (v.mx.row.length : Int) = objsOf v.size v.obj := by
  have hs := h
  rw [B_split] at hs
  simp only [Bool.and_eq_true] at hs
  obtain ⟨⟨⟨⟨h1, h2⟩, h3⟩, _⟩, _⟩ := hs
  have h4 := h3.1
  unfold MkV.B at h4
  rw [if_pos hon] at h4
  simp only [Bool.and_eq_true, decide_eq_true_eq] at h4
  exact h4.2
set_option maxHeartbeats 16000000 in
theorem mark_any (h : HA) (w : World) (i : Int) (hi : I64 i) (b : Nat) (hb8 : b < 256) (hR : h.R SA.cells w) (hS : h.Sm) : Calls Try.prog 79 #[.agg h.cs, .int .i64 i, .int .u8 (b : Int)] w (AnsTo w h.v (fun k => MarE h.v i b k) (fun v => MarO h.v i b v)) := by
  obtain ⟨W1, hW1⟩ : ∃ W, W = (((w.alloc (.cells #[.int .i64 h.id, .int .i64 h.vw.size, .int .i64 h.obj, .int .i64 h.seq, .slice h.S h.sn.length h.cs', .bool h.vw.on, .bool h.vw.good, .slice h.vw.M h.vw.row.length h.vw.cm, .string (strOf h.vw.par), .int .i64 h.vw.ps, .int .i64 h.vw.ov, .int .i64 h.ow, .int .i64 h.it, .int .i64 h.tg] 36)).alloc (.cells #[.int .i64 i] 3)).alloc (.cells #[.int .u8 (b : Int)] 5)).alloc (.cells #[.int .i64 0, .int .i64 0, .int .i64 0, .int .i64 0, .slice none 0 0, .bool false, .bool false, .slice none 0 0, .string ⟨#[]⟩, .int .i64 0, .int .i64 0, .int .i64 0, .int .i64 0, .int .i64 0] 36) := ⟨_, rfl⟩
  have h1 : Below w.heap.size w W1 ∧ W1.heap.size = w.heap.size + 4 ∧ Blk W1 w.heap.size 36 #[.int .i64 h.id, .int .i64 h.vw.size, .int .i64 h.obj, .int .i64 h.seq, .slice h.S h.sn.length h.cs', .bool h.vw.on, .bool h.vw.good, .slice h.vw.M h.vw.row.length h.vw.cm, .string (strOf h.vw.par), .int .i64 h.vw.ps, .int .i64 h.vw.ov, .int .i64 h.ow, .int .i64 h.it, .int .i64 h.tg] ∧ Blk W1 (w.heap.size + 3) 36 #[.int .i64 0, .int .i64 0, .int .i64 0, .int .i64 0, .slice none 0 0, .bool false, .bool false, .slice none 0 0, .string ⟨#[]⟩, .int .i64 0, .int .i64 0, .int .i64 0, .int .i64 0, .int .i64 0] := by
    rw [hW1]
    refine ⟨((((below_alloc w _).alloc (by simp <;> omega) _).alloc (by simp <;> omega) _).alloc (by simp <;> omega) _), by simp, ((((Blk.new w _ _).alloc _).alloc _).alloc _), ?_⟩
    have := Blk.new (((w.alloc (.cells #[.int .i64 h.id, .int .i64 h.vw.size, .int .i64 h.obj, .int .i64 h.seq, .slice h.S h.sn.length h.cs', .bool h.vw.on, .bool h.vw.good, .slice h.vw.M h.vw.row.length h.vw.cm, .string (strOf h.vw.par), .int .i64 h.vw.ps, .int .i64 h.vw.ov, .int .i64 h.ow, .int .i64 h.it, .int .i64 h.tg] 36)).alloc (.cells #[.int .i64 i] 3)).alloc (.cells #[.int .u8 (b : Int)] 5)) 36 #[.int .i64 0, .int .i64 0, .int .i64 0, .int .i64 0, .slice none 0 0, .bool false, .bool false, .slice none 0 0, .string ⟨#[]⟩, .int .i64 0, .int .i64 0, .int .i64 0, .int .i64 0, .int .i64 0]
    simpa using this
  have p0 : Blk W1 (w.heap.size + 1) 3 #[.int .i64 i] := by
    have := Blk.new (w.alloc (.cells #[.int .i64 h.id, .int .i64 h.vw.size, .int .i64 h.obj, .int .i64 h.seq, .slice h.S h.sn.length h.cs', .bool h.vw.on, .bool h.vw.good, .slice h.vw.M h.vw.row.length h.vw.cm, .string (strOf h.vw.par), .int .i64 h.vw.ps, .int .i64 h.vw.ov, .int .i64 h.ow, .int .i64 h.it, .int .i64 h.tg] 36)) 3 #[.int .i64 i]
    rw [hW1]
    exact (((by simpa using this : Blk ((w.alloc (.cells #[.int .i64 h.id, .int .i64 h.vw.size, .int .i64 h.obj, .int .i64 h.seq, .slice h.S h.sn.length h.cs', .bool h.vw.on, .bool h.vw.good, .slice h.vw.M h.vw.row.length h.vw.cm, .string (strOf h.vw.par), .int .i64 h.vw.ps, .int .i64 h.vw.ov, .int .i64 h.ow, .int .i64 h.it, .int .i64 h.tg] 36)).alloc (.cells #[.int .i64 i] 3)) (w.heap.size + 1) 3 #[.int .i64 i]).alloc _).alloc _)
  have p1 : Blk W1 (w.heap.size + 2) 5 #[.int .u8 (b : Int)] := by
    have := Blk.new ((w.alloc (.cells #[.int .i64 h.id, .int .i64 h.vw.size, .int .i64 h.obj, .int .i64 h.seq, .slice h.S h.sn.length h.cs', .bool h.vw.on, .bool h.vw.good, .slice h.vw.M h.vw.row.length h.vw.cm, .string (strOf h.vw.par), .int .i64 h.vw.ps, .int .i64 h.vw.ov, .int .i64 h.ow, .int .i64 h.it, .int .i64 h.tg] 36)).alloc (.cells #[.int .i64 i] 3)) 5 #[.int .u8 (b : Int)]
    rw [hW1]
    exact ((by simpa using this : Blk (((w.alloc (.cells #[.int .i64 h.id, .int .i64 h.vw.size, .int .i64 h.obj, .int .i64 h.seq, .slice h.S h.sn.length h.cs', .bool h.vw.on, .bool h.vw.good, .slice h.vw.M h.vw.row.length h.vw.cm, .string (strOf h.vw.par), .int .i64 h.vw.ps, .int .i64 h.vw.ov, .int .i64 h.ow, .int .i64 h.it, .int .i64 h.tg] 36)).alloc (.cells #[.int .i64 i] 3)).alloc (.cells #[.int .u8 (b : Int)] 5)) (w.heap.size + 2) 5 #[.int .u8 (b : Int)]).alloc _)
  have HCH := Lib.hid (change_any h W1 (hR.since h1.1) hS 131 (fun args w => by kernel_rfl) #[.pointer (some ⟨w.heap.size + 1, 0, none⟩), .pointer (some ⟨w.heap.size + 2, 0, none⟩)] [] (fun k hk => by cases hk) (fun k _ => MarE h.v i b k) (fun v _ => MarO h.v i b v) (fun _ _ _ _ p => p) (fun _ _ _ _ p => p) (fun W base g c hb1 hb2 hbw hg hk hN hD hcv hB => by
    rw [← hcv]; exact mark1_any W base g (w.heap.size + 1) (w.heap.size + 2) c i b hb2 hg hk hN hD hi hb8 (fun hon => marks_len (v := c.v) (hcv ▸ hB) hon) (by have e : c.vw.row = h.vw.row := congrArg (fun v => v.mx.row) hcv; have := hS.vw.row; rw [e]; omega) (by have := h1.2.1; omega) (by have := h1.2.1; omega) ((p0.of (hbw.block _ p0.lt)).cell 0) ((p1.of (hbw.block _ p1.lt)).cell 0)))
  have HW1 := Lib.hid hW1
  have H1 := Lib.hid h1
  clear hW1 h1 hR hS p0 p1
  unfold HA.cs at *
  have hz := head_zero
  go_enter Try.func79, Try.ntmps79
  go_upto_region 1 with (fail)
  rw [← HW1.out]
  clear HW1
  have K1 := H1.out.2.2.1
  go_wp2_with (have _h := K1; refine wpList_loadq rfl 36 (.tmp 3) rfl (w.heap.size) [.int .i64 h.id, .int .i64 h.vw.size, .int .i64 h.obj, .int .i64 h.seq, .slice h.S h.sn.length h.cs', .bool h.vw.on, .bool h.vw.good, .slice h.vw.M h.vw.row.length h.vw.cm, .string (strOf h.vw.par), .int .i64 h.vw.ps, .int .i64 h.vw.ov, .int .i64 h.ow, .int .i64 h.it, .int .i64 h.tg] _ rfl K1 Try.underlying36 rfl (by kernel_rfl) ?_; clear _h K1)
  refine HCH.out.mono ?_
  rintro e w2 ⟨f2, h2⟩
  have b2 : Below W1.heap.size W1 w2 := f2.below
  have K2 : Blk w2 (w.heap.size + 3) 36 #[.int .i64 0, .int .i64 0, .int .i64 0, .int .i64 0, .slice none 0 0, .bool false, .bool false, .slice none 0 0, .string ⟨#[]⟩, .int .i64 0, .int .i64 0, .int .i64 0, .int .i64 0, .int .i64 0] := H1.out.2.2.2.of (b2.block _ H1.out.2.2.2.lt)
  have HB2 : Hid (Below w.heap.size w w2) := Lib.hid (H1.out.1.trans (b2.mono H1.out.1.size))
  have hz2 := HB2.out.size
  have HR2 := Lib.hid K2
  clear b2 f2 HCH
  rcases h2 with ⟨hB, rfl⟩ | ⟨hB, k, rfl, hk0, hpe⟩ | ⟨hB, q, rfl, hqN, hpo⟩
  · have HH := Lib.hid hB
    clear hB
    simp only [errV, Z14]
    go_wp2_with (have _h := K2; refine wpList_storeq rfl 36 (.tmp 6) (.tmp 11) rfl (w.heap.size + 3) _ [.int .i64 0, .int .i64 0, .int .i64 0, .int .i64 0, .slice none 0 0, .bool false, .bool false, .slice none 0 0, .string ⟨#[]⟩, .int .i64 0, .int .i64 0, .int .i64 0, .int .i64 0, .int .i64 0] rfl rfl K2 (by simp) (by kernel_rfl) (one14 _ _ _ _ _ _ _ _ _ _ _ _ _ _ _ _ _ _) ?_; clear _h K2; intro w9 K9 o9 s9)
    refine bodyPost_ret (results_cell_tmp9 rfl _ _ (w.heap.size + 3) 36 _ (0, 0) _ _ rfl rfl K9 Try.underlying36 rfl (by kernel_rfl)) rfl ?_
    exact ⟨HB2.out.trans (o9.below (fun x hx => by simp at hx; omega) hz2), .inl ⟨HH.out, rfl⟩⟩
  · obtain ⟨k, rfl⟩ : ∃ k', k = k' + 1 := ⟨k - 1, by omega⟩
    have HH := Lib.hid (And.intro hB hpe)
    clear hB hpe hk0
    simp only [errV, Z14]
    go_wp2_with (have _h := K2; refine wpList_storeq rfl 36 (.tmp 6) (.tmp 11) rfl (w.heap.size + 3) _ [.int .i64 0, .int .i64 0, .int .i64 0, .int .i64 0, .slice none 0 0, .bool false, .bool false, .slice none 0 0, .string ⟨#[]⟩, .int .i64 0, .int .i64 0, .int .i64 0, .int .i64 0, .int .i64 0] rfl rfl K2 (by simp) (by kernel_rfl) (one14 _ _ _ _ _ _ _ _ _ _ _ _ _ _ _ _ _ _) ?_; clear _h K2; intro w9 K9 o9 s9)
    refine bodyPost_ret (results_cell_tmp9 rfl _ _ (w.heap.size + 3) 36 _ (0, 0) _ _ rfl rfl K9 Try.underlying36 rfl (by kernel_rfl)) rfl ?_
    exact ⟨HB2.out.trans (o9.below (fun x hx => by simp at hx; omega) hz2), .inr (.inl ⟨HH.out.1, k + 1, rfl, by omega, HH.out.2⟩)⟩
  · have HH := Lib.hid (And.intro hB (And.intro hqN hpo))
    clear hB hqN hpo
    unfold HA.cs
    go_wp2_with (have _h := K2; refine wpList_storeq rfl 36 (.tmp 6) (.tmp 11) rfl (w.heap.size + 3) _ [.int .i64 q.id, .int .i64 q.vw.size, .int .i64 q.obj, .int .i64 q.seq, .slice q.S q.sn.length q.cs', .bool q.vw.on, .bool q.vw.good, .slice q.vw.M q.vw.row.length q.vw.cm, .string (strOf q.vw.par), .int .i64 q.vw.ps, .int .i64 q.vw.ov, .int .i64 q.ow, .int .i64 q.it, .int .i64 q.tg] rfl rfl K2 (by simp) (by kernel_rfl) (one14 _ _ _ _ _ _ _ _ _ _ _ _ _ _ _ _ _ _) ?_; clear _h K2; intro w9 K9 o9 s9)
    refine bodyPost_ret (results_cell_tmp9 rfl _ _ (w.heap.size + 3) 36 _ (0, 0) _ _ rfl rfl K9 Try.underlying36 rfl (by kernel_rfl)) rfl ?_
    exact ⟨HB2.out.trans (o9.below (fun x hx => by simp at hx; omega) hz2), .inr (.inr ⟨HH.out.1, q, rfl, (HH.out.2.1.stay HR2.out o9).weaken (by have := H1.out.2.1; omega), HH.out.2.2⟩)⟩
end Go.Proofs.Ytiimanoloedbeaa

/-
  Which heads stay good: what each call of package rules makes of a good head. No condition; nothing of the program is named.
-/
namespace Go.Proofs.Ytiimanoloedbeaa
open Go.RowKit Go.BigFrame
set_option linter.unusedSimpArgs false
set_option linter.unusedVariables false
set_option maxRecDepth 100000
/-! ### the parts of what is good -/
theorem B_iff (v : HdV) : v.B = true ↔ 0 ≤ v.id ∧ 0 ≤ v.seq ∧ isObjB v.obj = true ∧ viewB v.size v.obj v.mx v.lk = true ∧ v.snB = true ∧ -1 ≤ v.ow ∧ v.ow < 8 ∧ v.itB = true := by
  unfold HdV.B
  simp only [Bool.and_eq_true, decide_eq_true_eq, and_assoc]
theorem snB_iff (v : HdV) : v.snB = true ↔ v.sn.length ≤ 16 ∧ snapsB v.obj v.seq 0 v.sn = true ∧ (v.sn.map SnV.name).Nodup := by
  unfold HdV.snB
  simp only [Bool.and_eq_true, decide_eq_true_eq, and_assoc]
theorem vw_iff (s o : Int) (m : MkV) (l : LkV) : viewB s o m l = true ↔ 0 ≤ s ∧ s ≤ 4096 ∧ m.B (objsOf s o) = true ∧ l.B s = true := by
  unfold viewB
  simp only [Bool.and_eq_true, decide_eq_true_eq, and_assoc]
theorem mkB_iff (m : MkV) (n : Int) : m.B n = true ↔ (m.on = true ∧ Good m.row ∧ (m.row.length : Int) = n) ∨ (m.on = false ∧ m.row = [] ∧ m.good = false) := by
  unfold MkV.B
  cases m.on <;> simp [Bool.and_eq_true, List.isEmpty_iff]
theorem lkB_iff (l : LkV) (s : Int) : l.B s = true ↔ (l.par = [] ∧ l.ps = 0 ∧ l.ov = 0) ∨ (l.par ≠ [] ∧ namedB l.par = true ∧ 1 ≤ l.ps ∧ 0 ≤ l.ov ∧ l.ov ≤ s) := by
  unfold LkV.B
  cases h : l.par with
  | nil => simp
  | cons x r => simp [and_assoc]
theorem itB_iff (v : HdV) : v.itB = true ↔ (v.it = 1 ∧ 0 ≤ v.tg ∧ v.tg ≤ 4096) ∨ ((v.it = 2 ∨ v.it = 3) ∧ v.tg ∈ v.sn.map SnV.num) ∨ ((v.it = 0 ∨ v.it = 4 ∨ v.it = 5) ∧ v.tg = 0) := by
  unfold HdV.itB
  by_cases h1 : v.it = 1
  · rw [if_pos h1, h1]
    simp
  · rw [if_neg h1]
    by_cases h2 : v.it = 2 ∨ v.it = 3
    · rw [if_pos h2, List.any_eq_true]
      constructor
      · rintro ⟨s, hs, e⟩
        exact .inr (.inl ⟨h2, List.mem_map.2 ⟨s, hs, by simpa using e⟩⟩)
      · rintro (h | ⟨-, h⟩ | ⟨h, -⟩)
        · exact absurd h.1 h1
        · obtain ⟨s, hs, e⟩ := List.mem_map.1 h
          exact ⟨s, hs, by simpa using e⟩
        · omega
    · rw [if_neg h2]
      by_cases h3 : v.it = 0 ∨ v.it = 4 ∨ v.it = 5
      · rw [if_pos h3, decide_eq_true_eq]
        exact ⟨fun h => .inr (.inr ⟨h3, h⟩), fun h => by rcases h with h | h | h; exact absurd h.1 h1; exact absurd h.1 h2; exact h.2⟩
      · rw [if_neg h3]
        exact ⟨fun h => (by cases h), fun h => by rcases h with h | h | h; exact absurd h.1 h1; exact absurd h.1 h2; exact absurd h.1 h3⟩
/-- a snapshot that may stand in a head -/
structure SnGood (o q : Int) (s : SnV) : Prop where
  le : s.num ≤ q
  name : namedB s.name = true
  vw : viewB s.size o s.mx s.lk = true
  up : upB [] s.ch = true
  pr : s.prot = true ∨ s.ch = []
theorem snapB_iff (o q a : Int) (s : SnV) : snapB o q a s = true ↔ a < s.num ∧ SnGood o q s := by
  unfold snapB SnV.chB
  simp only [Bool.and_eq_true, Bool.or_eq_true, decide_eq_true_eq, List.isEmpty_iff, and_assoc]
  exact ⟨fun ⟨a, b, c, d, e, f⟩ => ⟨a, b, c, d, e, f⟩, fun ⟨a, b, c, d, e, f⟩ => ⟨a, b, c, d, e, f⟩⟩
theorem snaps_iff (o q : Int) : ∀ (l : List SnV) (a : Int), snapsB o q a l = true ↔ (∀ s ∈ l, a < s.num ∧ SnGood o q s) ∧ (l.map SnV.num).Pairwise (· < ·)
  | [], a => by simp [snapsB]
  | s :: r, a => by
    rw [snapsB, Bool.and_eq_true, snapB_iff, snaps_iff o q r s.num, List.map_cons, List.pairwise_cons]
    constructor
    · rintro ⟨⟨h1, h2⟩, h3, h4⟩
      refine ⟨fun x hx => ?_, fun n hn => ?_, h4⟩
      · rcases List.mem_cons.1 hx with rfl | hx
        · exact ⟨h1, h2⟩
        · exact ⟨Int.lt_trans h1 (h3 x hx).1, (h3 x hx).2⟩
      · obtain ⟨x, hx, rfl⟩ := List.mem_map.1 hn
        exact (h3 x hx).1
    · rintro ⟨h1, h2, h3⟩
      exact ⟨h1 s (by simp), fun x hx => ⟨h2 _ (List.mem_map.2 ⟨x, hx, rfl⟩), (h1 x (by simp [hx])).2⟩, h3⟩
/-- a good head's snapshots -/
structure SnsGood (o q : Int) (l : List SnV) : Prop where
  few : l.length ≤ 16
  all : ∀ s ∈ l, 0 < s.num ∧ SnGood o q s
  up : (l.map SnV.num).Pairwise (· < ·)
  nm : (l.map SnV.name).Nodup
theorem sns_iff (v : HdV) : v.snB = true ↔ SnsGood v.obj v.seq v.sn := by
  rw [snB_iff, snaps_iff]
  exact ⟨fun ⟨a, ⟨b, c⟩, d⟩ => ⟨a, b, c, d⟩, fun h => ⟨h.few, ⟨h.all, h.up⟩, h.nm⟩⟩
theorem map_set_same {α β : Type} (f : α → β) {l : List α} {k : Nat} {x y : α} (h : l[k]? = some x) (e : f y = f x) : (l.set k y).map f = l.map f := by
  apply List.ext_getElem?
  intro i
  rw [List.getElem?_map, List.getElem?_map]
  by_cases hi : i = k
  · subst hi
    have := (List.getElem?_eq_some_iff.1 h).1
    rw [List.getElem?_set_self this, h, Option.map_some, Option.map_some, e]
  · rw [List.getElem?_set_ne (Ne.symm hi)]
theorem SnsGood.set {o q : Int} {l : List SnV} (h : SnsGood o q l) {k : Nat} {s s' : SnV} (hs : l[k]? = some s) (hn : s'.num = s.num) (hm : s'.name = s.name) (hg : SnGood o q s') : SnsGood o q (l.set k s') := by
  refine ⟨by rw [List.length_set]; exact h.few, fun x hx => ?_, by rw [map_set_same SnV.num hs hn]; exact h.up, by rw [map_set_same SnV.name hs hm]; exact h.nm⟩
  rcases List.mem_or_eq_of_mem_set hx with hx | rfl
  · exact h.all x hx
  · exact ⟨by rw [hn]; exact (h.all s (List.mem_of_getElem? hs)).1, hg⟩
theorem setSn_B {v : HdV} (hB : v.B = true) {k : Nat} {s s' : SnV} (hs : v.sn[k]? = some s) (hn : s'.num = s.num) (hm : s'.name = s.name) (hg : SnGood v.obj v.seq s → SnGood v.obj v.seq s') : (v.setSn k s').B = true := by
  rw [B_iff] at hB ⊢
  obtain ⟨h1, h2, h3, h4, h5, h6, h7, h8⟩ := hB
  rw [sns_iff] at h5
  refine ⟨h1, h2, h3, h4, (sns_iff _).2 (h5.set hs hn hm (hg (h5.all s (List.mem_of_getElem? hs)).2)), h6, h7, ?_⟩
  rw [itB_iff] at h8 ⊢
  show (v.it = 1 ∧ _) ∨ ((v.it = 2 ∨ v.it = 3) ∧ v.tg ∈ (v.sn.set k s').map SnV.num) ∨ _
  rw [map_set_same SnV.num hs hn]
  exact h8
theorem atSn {v : HdV} (hB : v.B = true) {k : Nat} {s : SnV} (hs : v.sn[k]? = some s) : 0 < s.num ∧ SnGood v.obj v.seq s := by
  rw [B_iff, sns_iff] at hB
  exact hB.2.2.2.2.1.all s (List.mem_of_getElem? hs)
/-! ### texts in their order -/
theorem less_trans : ∀ x y z : List UInt8, Op.bytesLess x y = true → Op.bytesLess y z = true → Op.bytesLess x z = true
  | _, _, [], _, h => by simp [Op.bytesLess] at h
  | _, [], _ :: _, h, _ => by simp [Op.bytesLess] at h
  | [], _ :: _, _ :: _, _, _ => rfl
  | a :: x, b :: y, c :: z, h1, h2 => by
    simp only [Op.bytesLess, Bool.or_eq_true, Bool.and_eq_true, decide_eq_true_eq, beq_iff_eq] at h1 h2 ⊢
    rcases h1 with h1 | ⟨rfl, h1⟩
    · rcases h2 with h2 | ⟨rfl, h2⟩
      · exact .inl (by have := UInt8.lt_iff_toNat_lt.1 h1; have := UInt8.lt_iff_toNat_lt.1 h2; exact UInt8.lt_iff_toNat_lt.2 (by omega))
      · exact .inl h1
    · rcases h2 with h2 | ⟨rfl, h2⟩
      · exact .inl h2
      · exact .inr ⟨rfl, less_trans x y z h1 h2⟩
theorem ltS_trans {a b c : List Nat} (h1 : ltS a b = true) (h2 : ltS b c = true) : ltS a c = true := less_trans _ _ _ h1 h2
theorem ltS_tot {a b : List Nat} (ha : ∀ x ∈ a, x < 256) (hb : ∀ x ∈ b, x < 256) (h : ltS a b = false) (hne : a ≠ b) : ltS b a = true := by
  have e := le_lt_str b a
  rw [h, str_eq hb ha, decide_eq_false (fun h => hne h.symm), Bool.or_false] at e
  exact e
theorem up_iff : ∀ (l : List (List Nat)) (a : List Nat), upB a l = true ↔ (∀ c ∈ l, namedB c = true ∧ ltS a c = true) ∧ l.Pairwise (fun x y => ltS x y = true)
  | [], a => by simp [upB]
  | c :: r, a => by
    rw [upB]
    simp only [Bool.and_eq_true, up_iff r c, List.pairwise_cons, List.mem_cons, forall_eq_or_imp]
    constructor
    · rintro ⟨⟨h1, h2⟩, h3, h4⟩
      exact ⟨⟨⟨h1, h2⟩, fun x hx => ⟨(h3 x hx).1, ltS_trans h2 (h3 x hx).2⟩⟩, fun x hx => (h3 x hx).2, h4⟩
    · rintro ⟨⟨⟨h1, h2⟩, h3⟩, h4, h5⟩
      exact ⟨⟨h1, h2⟩, fun x hx => ⟨(h3 x hx).1, h4 x hx⟩, h5⟩
theorem up_nil (l : List (List Nat)) : upB [] l = true ↔ (∀ c ∈ l, namedB c = true) ∧ l.Pairwise (fun x y => ltS x y = true) := by
  rw [up_iff]
  exact ⟨fun ⟨h1, h2⟩ => ⟨fun c hc => (h1 c hc).1, h2⟩, fun ⟨h1, h2⟩ => ⟨fun c hc => ⟨h1 c hc, ltS_nil (h1 c hc)⟩, h2⟩⟩
theorem up_lt {l : List (List Nat)} (h : l.Pairwise (fun x y => ltS x y = true)) {i j : Nat} {a b : List Nat} (hi : l[i]? = some a) (hj : l[j]? = some b) (hij : i < j) : ltS a b = true := by
  obtain ⟨h1, h2⟩ := List.getElem?_eq_some_iff.1 hi
  obtain ⟨h3, h4⟩ := List.getElem?_eq_some_iff.1 hj
  have := List.pairwise_iff_getElem.1 h i j h1 h3 hij
  rwa [h2, h4] at this
theorem up_ins {l : List (List Nat)} {x : List Nat} {i : Nat} (h : upB [] l = true) (hx : namedB x = true) (f : Fnd l x i false) : upB [] (l.take i ++ x :: l.drop i) = true := by
  rw [up_nil] at h ⊢
  obtain ⟨h1, h2⟩ := h
  have hl : ∀ c ∈ l.take i, ltS c x = true := fun c hc => by
    obtain ⟨k, hk⟩ := List.getElem?_of_mem hc
    have hki : k < i := by
      have := (List.getElem?_eq_some_iff.1 hk).1
      rw [List.length_take] at this
      omega
    rw [List.getElem?_take_of_lt hki] at hk
    have hlt : i - 1 < l.length := by have := f.le; omega
    have hd := f.lo l[i - 1] (by omega) (List.getElem?_eq_getElem hlt)
    by_cases hk2 : k = i - 1
    · subst hk2
      rw [List.getElem?_eq_getElem hlt] at hk
      injection hk with hk
      rw [← hk]; exact hd
    · exact ltS_trans (up_lt h2 hk (List.getElem?_eq_getElem hlt) (by omega)) hd
  have hr : ∀ c ∈ l.drop i, ltS x c = true := fun c hc => by
    obtain ⟨k, hk⟩ := List.getElem?_of_mem hc
    rw [List.getElem?_drop] at hk
    have hlt : i < l.length := by have := (List.getElem?_eq_some_iff.1 hk).1; omega
    have hg := List.getElem?_eq_getElem hlt
    have hd := f.hi l[i] hg
    have hne : l[i] ≠ x := fun e => by
      have := f.is
      rw [hg, e] at this
      simp at this
    have hdx : ltS x l[i] = true := ltS_tot (named_lt (h1 _ (List.getElem_mem hlt))) (named_lt hx) hd hne
    by_cases hk2 : k = 0
    · subst hk2
      rw [Nat.add_zero, hg] at hk
      injection hk with hk
      rw [← hk]; exact hdx
    · exact ltS_trans hdx (up_lt h2 hg hk (by omega))
  refine ⟨fun c hc => ?_, ?_⟩
  · rcases List.mem_append.1 hc with h | h
    · exact h1 c (List.mem_of_mem_take h)
    · rcases List.mem_cons.1 h with rfl | h
      · exact hx
      · exact h1 c (List.mem_of_mem_drop h)
  · rw [List.pairwise_append]
    refine ⟨h2.sublist (List.take_sublist _ _), List.pairwise_cons.2 ⟨hr, h2.sublist (List.drop_sublist _ _)⟩, fun a ha b hb => ?_⟩
    rcases List.mem_cons.1 hb with rfl | hb
    · exact hl a ha
    · exact ltS_trans (hl a ha) (hr b hb)
theorem up_del {l : List (List Nat)} (h : upB [] l = true) (j : Nat) : upB [] (l.eraseIdx j) = true := by
  rw [up_nil] at h ⊢
  exact ⟨fun c hc => h.1 c ((List.eraseIdx_sublist l j).subset hc), h.2.sublist (List.eraseIdx_sublist l j)⟩
/-! ### each call -/
theorem acq_B {v v' : HdV} {n : Int} (h : AcqO v n v') (hB : v.B = true) : v'.B = true := by
  obtain ⟨h1, h2, h3, rfl⟩ := h
  rw [B_iff] at hB ⊢
  obtain ⟨a, b, c, d, e, f, g, i⟩ := hB
  exact ⟨a, b, c, d, e, by show -1 ≤ n; omega, h2, i⟩
theorem free_B {v : HdV} (hB : v.B = true) : ({ v with ow := -1 } : HdV).B = true := by
  rw [B_iff] at hB ⊢
  obtain ⟨a, b, c, d, e, f, g, i⟩ := hB
  exact ⟨a, b, c, d, e, by show (-1 : Int) ≤ -1; omega, by show (-1 : Int) < 8; omega, i⟩
theorem idx_neg {α : Type} (p : α → Bool) : ∀ l : List α, idxI p l < 0 ↔ ∀ x ∈ l, p x = false
  | [] => by simp [idxI]
  | y :: l => by
    have ih := idx_neg p l
    rw [idxI]
    by_cases hy : p y = true
    · rw [if_pos hy]
      exact ⟨fun h => by omega, fun h => by have := h y (by simp); rw [hy] at this; cases this⟩
    · rw [if_neg hy]
      by_cases h2 : idxI p l < 0
      · rw [if_pos h2]
        refine ⟨fun _ x hx => ?_, fun _ => by omega⟩
        rcases List.mem_cons.1 hx with rfl | hx
        · simpa using hy
        · exact ih.1 h2 x hx
      · rw [if_neg h2]
        exact ⟨fun h => by omega, fun h => absurd (ih.2 fun x hx => h x (by simp [hx])) h2⟩
theorem beg_B {v v' : HdV} {i t : Int} (h : BegO v i t v') (hB : v.B = true) : v'.B = true := by
  obtain ⟨h1, rfl⟩ := h
  rw [B_iff] at hB ⊢
  obtain ⟨a, b, c, d, e, f, g, _⟩ := hB
  refine ⟨a, b, c, d, e, f, g, (itB_iff _).2 ?_⟩
  show (i = 1 ∧ 0 ≤ t ∧ t ≤ 4096) ∨ ((i = 2 ∨ i = 3) ∧ t ∈ v.sn.map SnV.num) ∨ ((i = 0 ∨ i = 4 ∨ i = 5) ∧ t = 0)
  have hs := ((vw_iff _ _ _ _).1 d).2.1
  have hat : ¬ idxN v t < 0 → t ∈ v.sn.map SnV.num := fun hn => by
    obtain ⟨k, s, _, hs, hp⟩ := idx_at _ v.sn (by unfold idxN at hn; omega : 0 ≤ idxI (fun s : SnV => s.num == t) v.sn)
    exact List.mem_map.2 ⟨s, List.mem_of_getElem? hs, by simpa using hp⟩
  unfold refB at h1
  by_cases c0 : v.it ≠ 0
  · rw [if_pos c0] at h1; omega
  rw [if_neg c0] at h1
  by_cases c1 : i < 1 ∨ 5 < i
  · rw [if_pos c1] at h1; omega
  rw [if_neg c1] at h1
  by_cases c2 : i = 1
  · rw [if_pos c2] at h1
    by_cases c3 : t < 0 ∨ v.size < t
    · rw [if_pos c3] at h1; omega
    · exact .inl ⟨c2, by omega, by omega⟩
  rw [if_neg c2] at h1
  by_cases c3 : i = 2
  · rw [if_pos c3] at h1
    by_cases c4 : idxN v t < 0
    · rw [if_pos c4] at h1; omega
    · exact .inr (.inl ⟨.inl c3, hat c4⟩)
  rw [if_neg c3] at h1
  by_cases c5 : i = 3
  · rw [if_pos c5] at h1
    by_cases c4 : idxN v t < 0
    · rw [if_pos c4] at h1; omega
    · exact .inr (.inl ⟨.inr c5, hat c4⟩)
  rw [if_neg c5] at h1
  have ht : t = 0 := by
    by_cases c6 : t ≠ 0
    · rw [if_pos c6, if_pos c6] at h1
      split at h1 <;> omega
    · omega
  exact .inr (.inr ⟨by omega, ht⟩)
theorem sized_good {m : List Nat} (h : ∀ x ∈ m, x ≤ 3) {n : Nat} (hn : n ≤ 256) : Good (sizedM m n) := ⟨by rw [sizedM_len]; exact hn, fun x hx => by
  obtain ⟨i, _, rfl⟩ := List.mem_map.1 hx
  exact mk_le h i⟩
theorem row_le {m : MkV} {n : Int} (h : m.B n = true) : ∀ x ∈ m.row, x ≤ 3 := by
  rcases (mkB_iff m n).1 h with ⟨_, h, _⟩ | ⟨_, h, _⟩
  · exact h.2
  · rw [h]; exact fun x hx => (by cases hx)
theorem fit_B {m : MkV} {s o : Int} (hm : m.on = true → ∀ x ∈ m.row, x ≤ 3) (hf : m.on = false → m.row = [] ∧ m.good = false) (hs : 0 ≤ s ∧ s ≤ 4096) (ho : isObjB o = true) : (fitM m (objsOf s o)).B (objsOf s o) = true := by
  obtain ⟨n, hn, hn2⟩ := objs_few hs ho
  rw [mkB_iff]
  unfold fitM
  cases hon : m.on with
  | true =>
    rw [if_pos rfl, hn]
    exact .inl ⟨rfl, sized_good (hm hon) (by simpa using hn2), by rw [sizedM_len]; simp⟩
  | false =>
    rw [if_neg (by simp)]
    exact .inr ⟨hon, hf hon⟩
theorem res_B {v : HdV} {n : Int} (hn : 0 ≤ n ∧ n ≤ 4096) (hB : v.B = true) : (resV v n).B = true := by
  rw [B_iff] at hB ⊢
  obtain ⟨a, b, c, d, e, f, g, i⟩ := hB
  obtain ⟨d1, d2, d3, d4⟩ := (vw_iff _ _ _ _).1 d
  refine ⟨a, b, c, (vw_iff _ _ _ _).2 ⟨hn.1, hn.2, fit_B (fun _ => row_le d3) (fun h => ?_) hn c, (lkB_iff _ _).2 ?_⟩, e, f, g, i⟩
  · rcases (mkB_iff _ _).1 d3 with ⟨h1, _⟩ | ⟨_, h1⟩
    · have h2 : v.mx.on = false := h
      rw [h1] at h2; cases h2
    · exact h1
  · show (v.lk.par = [] ∧ v.lk.ps = 0 ∧ min v.lk.ov n = 0) ∨ (v.lk.par ≠ [] ∧ namedB v.lk.par = true ∧ 1 ≤ v.lk.ps ∧ 0 ≤ min v.lk.ov n ∧ min v.lk.ov n ≤ n)
    rcases (lkB_iff _ _).1 d4 with ⟨h1, h2, h3⟩ | ⟨h1, h2, h3, h4, h5⟩
    · exact .inl ⟨h1, h2, by omega⟩
    · exact .inr ⟨h1, h2, h3, by omega, by omega⟩
theorem gro_B {v v' : HdV} {n : Int} (h : GroO v n v') (hB : v.B = true) : v'.B = true := by
  obtain ⟨_, h2, h3, rfl⟩ := h
  have := (vw_iff _ _ _ _).1 ((B_iff v).1 hB).2.2.2.1
  exact res_B ⟨by omega, h3⟩ hB
theorem mt_B {v v' : HdV} {on good : Bool} (h : MtO v on good v') (hB : v.B = true) : v'.B = true := by
  obtain ⟨h1, rfl⟩ := h
  rw [B_iff] at hB ⊢
  obtain ⟨a, b, c, d, e, f, g, i⟩ := hB
  obtain ⟨d1, d2, d3, d4⟩ := (vw_iff _ _ _ _).1 d
  refine ⟨a, b, c, (vw_iff _ _ _ _).2 ⟨d1, d2, ?_, d4⟩, e, f, g, i⟩
  show (if on then (⟨true, good, sizedM v.mx.row (objsOf v.size v.obj).toNat⟩ : MkV) else ⟨false, good, []⟩).B (objsOf v.size v.obj) = true
  obtain ⟨n, hn, hn2⟩ := objs_few ⟨d1, d2⟩ c
  rw [mkB_iff, hn]
  cases on with
  | true => exact .inl ⟨rfl, sized_good (row_le d3) (by simpa using hn2), by simp [sizedM_len]⟩
  | false => exact .inr ⟨rfl, rfl, by cases good with | false => rfl | true => exact absurd (h1 rfl) (by simp)⟩
theorem pro_B {v : HdV} (hB : v.B = true) {i : Nat} {s : SnV} (hs : v.sn[i]? = some s) : (v.setSn i { s with prot := true }).B = true :=
  setSn_B hB hs rfl rfl fun h => ⟨h.le, h.name, h.vw, h.up, .inl rfl⟩
theorem unp_B {v : HdV} (hB : v.B = true) {i : Nat} {s : SnV} (hs : v.sn[i]? = some s) (hc : s.ch = []) : (v.setSn i { s with prot := false }).B = true :=
  setSn_B hB hs rfl rfl fun h => ⟨h.le, h.name, h.vw, h.up, .inr hc⟩
theorem add_B {v : HdV} (hB : v.B = true) {i : Nat} {s s' : SnV} {x : List Nat} (hs : v.sn[i]? = some s) (h : AddO x s s') : (v.setSn i s').B = true := by
  obtain ⟨h1, h2, j, hf, rfl⟩ := h
  exact setSn_B hB hs rfl rfl fun h => ⟨h.le, h.name, h.vw, up_ins h.up h1 hf, .inl h2⟩
theorem dro_B {v v' : HdV} (hB : v.B = true) {t : Int} {x : List Nat} (h : DroO v t x v') : v'.B = true := by
  obtain ⟨i, s, _, hs, j, hf, rfl⟩ := h
  exact setSn_B hB hs rfl rfl fun h => ⟨h.le, h.name, h.vw, up_del h.up j, h.pr.imp id fun e => by show s.ch.eraseIdx j = []; rw [e]; rfl⟩
theorem frz_len (m : List Nat) : (frozenM m).length = m.length := by simp [frozenM]
theorem frozen_le {m : List Nat} (h : ∀ x ∈ m, x ≤ 3) : ∀ x ∈ frozenM m, x ≤ 3 := fun x hx => by
  obtain ⟨y, hy, rfl⟩ := List.mem_map.1 hx
  have := h y hy
  unfold frz
  split <;> omega
theorem snp_B {v v' : HdV} {n : List Nat} (h : SnpO v n v') (hB : v.B = true) (hq : v.seq ≤ 9223372036854775807) : v'.B = true := by
  obtain ⟨h1, h2, h3, h4, h5, rfl⟩ := h
  rw [B_iff] at hB ⊢
  obtain ⟨a, b, c, d, e, f, g, i⟩ := hB
  obtain ⟨d1, d2, d3, d4⟩ := (vw_iff _ _ _ _).1 d
  rw [sns_iff] at e
  have hnum : ∀ s ∈ v.sn, s.num ≤ v.seq := fun s hs => (e.all s hs).2.le
  refine ⟨a, by show 0 ≤ v.seq + 1; omega, c, (vw_iff _ _ _ _).2 ⟨d1, d2, ?_, d4⟩, (sns_iff _).2 ⟨?_, fun s hs => ?_, ?_, ?_⟩, f, g, ?_⟩
  · show (⟨v.mx.on, v.mx.good, frozenM v.mx.row⟩ : MkV).B (objsOf v.size v.obj) = true
    rcases (mkB_iff _ _).1 d3 with ⟨m1, m2, m3⟩ | ⟨m1, m2, m3⟩
    · exact (mkB_iff _ _).2 (.inl ⟨m1, ⟨by show (frozenM _).length ≤ 256; rw [frz_len]; exact m2.1, frozen_le m2.2⟩, by show ((frozenM _).length : Int) = _; rw [frz_len]; exact m3⟩)
    · exact (mkB_iff _ _).2 (.inr ⟨m1, by show frozenM v.mx.row = []; rw [m2]; rfl, m3⟩)
  · show (v.sn ++ [_]).length ≤ 16
    rw [List.length_append, List.length_singleton]; omega
  · show 0 < s.num ∧ SnGood v.obj (v.seq + 1) s
    have hs : s ∈ v.sn ++ [_] := hs
    rcases List.mem_append.1 hs with hs | hs
    · obtain ⟨p, q⟩ := e.all s hs
      exact ⟨p, by have := q.le; omega, q.name, q.vw, q.up, q.pr⟩
    · obtain rfl := List.mem_singleton.1 hs
      exact ⟨by show 0 < v.seq + 1; omega, by show v.seq + 1 ≤ v.seq + 1; omega, h2, d, rfl, .inr rfl⟩
  · show ((v.sn ++ [_]).map SnV.num).Pairwise (· < ·)
    rw [List.map_append, List.pairwise_append]
    refine ⟨e.up, by simp, fun x hx y hy => ?_⟩
    obtain ⟨s, hs, rfl⟩ := List.mem_map.1 hx
    obtain rfl : y = v.seq + 1 := by simpa using hy
    have := hnum s hs
    omega
  · show ((v.sn ++ [_]).map SnV.name).Nodup
    rw [List.map_append, List.nodup_append]
    refine ⟨e.nm, by simp, fun x hx y hy => ?_⟩
    obtain ⟨s, hs, rfl⟩ := List.mem_map.1 hx
    obtain rfl : y = n := by simpa using hy
    have := (idx_neg _ _).1 h3 s hs
    simpa using this
  · rw [itB_iff] at i ⊢
    rcases i with i | i | i
    · omega
    · omega
    · exact .inr (.inr i)
theorem mar_B {v v' : HdV} {i : Int} {b : Nat} (h : MarO v i b v') (hB : v.B = true) : v'.B = true := by
  obtain ⟨_, _, h3, rfl⟩ := h
  cases hon : v.mx.on with
  | false => rw [if_neg (by simp)]; exact hB
  | true =>
    rw [if_pos rfl]
    rw [B_iff] at hB ⊢
    obtain ⟨a, b', c, d, e, f, g, i'⟩ := hB
    obtain ⟨d1, d2, d3, d4⟩ := (vw_iff _ _ _ _).1 d
    refine ⟨a, b', c, (vw_iff _ _ _ _).2 ⟨d1, d2, ?_, d4⟩, e, f, g, i'⟩
    rcases (mkB_iff _ _).1 d3 with ⟨m1, m2, m3⟩ | ⟨m1, m2, m3⟩
    · refine (mkB_iff _ _).2 (.inl ⟨m1, ⟨by show (v.mx.row.set _ _).length ≤ 256; rw [List.length_set]; exact m2.1, fun x hx => ?_⟩, by show ((v.mx.row.set _ _).length : Int) = _; rw [List.length_set]; exact m3⟩)
      rcases List.mem_or_eq_of_mem_set hx with hx | rfl
      · exact m2.2 x hx
      · exact h3
    · rw [hon] at m1; cases m1
end Go.Proofs.Ytiimanoloedbeaa

/-
  What Finish makes of a head's value, and that that stays good. No condition; nothing of the program is named.
-/
namespace Go.Proofs.Ytiimanoloedbeaa
open Go.RowKit Go.BigFrame
set_option linter.unusedSimpArgs false
set_option linter.unusedVariables false
set_option maxRecDepth 100000
/-- one mark taken over -/
def fol1 (a g : Nat) : Nat := if a = 3 ∧ (g = 1 ∨ g = 2) then 1 else a
/-- the first k taken over -/
def follK (m g : List Nat) (k : Nat) : List Nat := (List.range m.length).map fun i => if i < k then fol1 (mk m i) (mk g i) else mk m i
def follM (m g : List Nat) : List Nat := (List.range m.length).map fun i => fol1 (mk m i) (mk g i)
theorem follK_len (m g : List Nat) (k : Nat) : (follK m g k).length = m.length := by simp [follK]
theorem follM_len (m g : List Nat) : (follM m g).length = m.length := by simp [follM]
theorem follK_at (m g : List Nat) (k : Nat) {i : Nat} (h : i < m.length) : (follK m g k)[i]? = some (if i < k then fol1 (mk m i) (mk g i) else mk m i) := by
  simp [follK, h]
theorem follK_zero (m g : List Nat) : follK m g 0 = m := by
  apply List.ext_getElem?
  intro i
  by_cases h : i < m.length
  · rw [follK_at m g 0 h, if_neg (by omega), List.getElem?_eq_getElem h]
    congr 1
    exact mk_at (List.getElem?_eq_getElem h)
  · rw [List.getElem?_eq_none (by rw [follK_len]; omega), List.getElem?_eq_none (by omega)]
theorem follK_step (m g : List Nat) {k : Nat} (h : k < m.length) : follK m g (k + 1) = (follK m g k).set k (fol1 (mk m k) (mk g k)) := by
  apply List.ext_getElem?
  intro i
  by_cases hi : i < m.length
  · rw [follK_at m g (k + 1) hi]
    by_cases hk : i = k
    · subst hk
      rw [List.getElem?_set_self (by rw [follK_len]; omega), if_pos (by omega)]
    · rw [List.getElem?_set_ne (Ne.symm hk), follK_at m g k hi]
      by_cases h2 : i < k
      · rw [if_pos h2, if_pos (by omega)]
      · rw [if_neg h2, if_neg (by omega)]
  · rw [List.getElem?_eq_none (by rw [follK_len]; omega), List.getElem?_eq_none (by rw [List.length_set, follK_len]; omega)]
theorem follK_all (m g : List Nat) {k : Nat} (h : k = min m.length g.length) : follK m g k = follM m g := by
  subst h
  apply List.ext_getElem?
  intro i
  by_cases hi : i < m.length
  · rw [follK_at m g _ hi]
    simp only [follM, List.getElem?_map, List.getElem?_range hi, Option.map_some]
    by_cases h2 : i < min m.length g.length
    · rw [if_pos h2]
    · rw [if_neg h2, mk_over (m := g) (by omega)]
      congr 1
      unfold fol1
      rw [if_neg (by omega)]
  · rw [List.getElem?_eq_none (by rw [follK_len]; omega), List.getElem?_eq_none (by rw [follM_len]; omega)]
theorem fol1_le {a g : Nat} (h : a ≤ 3) : fol1 a g ≤ 3 := by unfold fol1; split <;> omega
theorem fol1_lt {a g : Nat} (h : a < 256) : fol1 a g < 256 := by unfold fol1; split <;> omega
theorem follM_le {m g : List Nat} (h : ∀ x ∈ m, x ≤ 3) : ∀ x ∈ follM m g, x ≤ 3 := fun x hx => by
  obtain ⟨i, _, rfl⟩ := List.mem_map.1 hx
  exact fol1_le (mk_le h i)
def follMx (m g : MkV) : MkV := ⟨m.on, m.good && g.good, follM m.row g.row⟩
def SnV.foll (s : SnV) (g : MkV) : SnV := { s with mx := follMx s.mx g }
/-- a head without its i-th snapshot -/
def remV (v : HdV) (i : Nat) (s : SnV) : HdV :=
  match v.sn[i + 1]? with
  | some n => { v with sn := (v.sn.set (i + 1) (n.foll s.mx)).eraseIdx i }
  | none => { v with sn := v.sn.eraseIdx i, mx := follMx v.mx s.mx }
def bak1 (b : Nat) : Nat := if b = 3 ∨ b = 2 then 1 else b
def backM (m : MkV) : MkV := { m with row := m.row.map bak1 }
/-- a head to which a snapshot is brought back -/
def bringV (v : HdV) (s : SnV) : HdV :=
  let u : HdV := fitV { v with size := s.size, lk := s.lk, mx := ⟨v.mx.on, v.mx.good && s.mx.good, if v.mx.on then s.mx.row else v.mx.row⟩ }
  { u with mx := backM u.mx }
def idle (v : HdV) : HdV := { v with it := 0, tg := 0 }
/-- what Finish makes of a head -/
def FinO (v : HdV) (v' : HdV) : Prop :=
  (v.it = 1 ∧ v' = idle (resV v v.tg)) ∨ (v.it = 2 ∧ ∃ (i : Nat) (s : SnV), idxN v v.tg = i ∧ v.sn[i]? = some s ∧ v' = idle (bringV v s)) ∨ (v.it = 3 ∧ ∃ (i : Nat) (s : SnV), idxN v v.tg = i ∧ v.sn[i]? = some s ∧ v' = idle (remV v i s)) ∨ (v.it = 4 ∧ v' = idle { v with lk := ⟨[], 0, 0⟩ })
def FinE (v : HdV) (k : Nat) : Prop := (v.it < 1 ∨ 4 < v.it) ∧ k = 13
/-! ### what is good stays good -/
theorem idle_B {v : HdV} (hB : 0 ≤ v.id ∧ 0 ≤ v.seq ∧ isObjB v.obj = true ∧ viewB v.size v.obj v.mx v.lk = true ∧ SnsGood v.obj v.seq v.sn ∧ -1 ≤ v.ow ∧ v.ow < 8) : (idle v).B = true := by
  rw [B_iff]
  obtain ⟨a, b, c, d, e, f, g⟩ := hB
  exact ⟨a, b, c, d, (sns_iff _).2 e, f, g, (itB_iff _).2 (.inr (.inr ⟨.inl rfl, rfl⟩))⟩
theorem foll_B {m g : MkV} {n : Int} (h : m.B n = true) : (follMx m g).B n = true := by
  rw [mkB_iff] at h ⊢
  rcases h with ⟨h1, h2, h3⟩ | ⟨h1, h2, h3⟩
  · exact .inl ⟨h1, ⟨by show (follM _ _).length ≤ 256; rw [follM_len]; exact h2.1, follM_le h2.2⟩, by show ((follM _ _).length : Int) = n; rw [follM_len]; exact h3⟩
  · refine .inr ⟨h1, ?_, ?_⟩
    · show follM m.row g.row = []
      rw [h2]; rfl
    · show (m.good && g.good) = false
      rw [h3]; rfl
theorem SnsGood.erase {o q : Int} {l : List SnV} (h : SnsGood o q l) (i : Nat) : SnsGood o q (l.eraseIdx i) := by
  have hs := List.eraseIdx_sublist l i
  exact ⟨Nat.le_trans hs.length_le h.few, fun s hx => h.all s (hs.subset hx), h.up.sublist (hs.map _), h.nm.sublist (hs.map _)⟩
theorem rem_parts {v : HdV} (hB : v.B = true) {i : Nat} {s : SnV} : 0 ≤ (remV v i s).id ∧ 0 ≤ (remV v i s).seq ∧ isObjB (remV v i s).obj = true ∧ viewB (remV v i s).size (remV v i s).obj (remV v i s).mx (remV v i s).lk = true ∧ SnsGood (remV v i s).obj (remV v i s).seq (remV v i s).sn ∧ -1 ≤ (remV v i s).ow ∧ (remV v i s).ow < 8 := by
  rw [B_iff] at hB
  obtain ⟨a, b, c, d, e, f, g, _⟩ := hB
  rw [sns_iff] at e
  unfold remV
  split
  · rename_i n hn
    have hg := (e.all n (List.mem_of_getElem? hn)).2
    obtain ⟨v1, v2, v3, v4⟩ := (vw_iff _ _ _ _).1 hg.vw
    have hgd : SnGood v.obj v.seq (n.foll s.mx) := ⟨hg.le, hg.name, (vw_iff _ _ _ _).2 ⟨v1, v2, foll_B v3, v4⟩, hg.up, hg.pr⟩
    exact ⟨a, b, c, d, SnsGood.erase (SnsGood.set (s' := n.foll s.mx) e hn rfl rfl hgd) i, f, g⟩
  · obtain ⟨v1, v2, v3, v4⟩ := (vw_iff _ _ _ _).1 d
    exact ⟨a, b, c, (vw_iff _ _ _ _).2 ⟨v1, v2, foll_B v3, v4⟩, e.erase i, f, g⟩
theorem bak_B {m : MkV} {n : Int} (h : m.B n = true) : (backM m).B n = true := by
  rw [mkB_iff] at h ⊢
  rcases h with ⟨h1, h2, h3⟩ | ⟨h1, h2, h3⟩
  · refine .inl ⟨h1, ⟨by show (m.row.map bak1).length ≤ 256; rw [List.length_map]; exact h2.1, fun x hx => ?_⟩, by show ((m.row.map bak1).length : Int) = n; rw [List.length_map]; exact h3⟩
    obtain ⟨y, hy, rfl⟩ := List.mem_map.1 hx
    have := h2.2 y hy
    unfold bak1
    split <;> omega
  · exact .inr ⟨h1, by show m.row.map bak1 = []; rw [h2]; rfl, h3⟩
theorem bring_parts {v : HdV} (hB : v.B = true) {i : Nat} {s : SnV} (hs : v.sn[i]? = some s) : viewB (bringV v s).size (bringV v s).obj (bringV v s).mx (bringV v s).lk = true := by
  have hg := (atSn hB hs).2
  rw [B_iff] at hB
  obtain ⟨a, b, c, d, e, f, g, _⟩ := hB
  obtain ⟨v1, v2, v3, v4⟩ := (vw_iff _ _ _ _).1 hg.vw
  obtain ⟨d1, d2, d3, d4⟩ := (vw_iff _ _ _ _).1 d
  refine (vw_iff _ _ _ _).2 ⟨v1, v2, bak_B (fit_B (fun hon => ?_) (fun hon => ?_) ⟨v1, v2⟩ c), v4⟩
  · have hon : v.mx.on = true := hon
    show ∀ x ∈ (if v.mx.on = true then s.mx.row else v.mx.row), x ≤ 3
    rw [if_pos hon]
    exact row_le v3
  · have hon : v.mx.on = false := hon
    show (if v.mx.on = true then s.mx.row else v.mx.row) = [] ∧ (v.mx.good && s.mx.good) = false
    rw [hon, if_neg (by simp)]
    rcases (mkB_iff _ _).1 d3 with ⟨h1, _⟩ | ⟨_, h2, h3⟩
    · rw [hon] at h1; cases h1
    · exact ⟨h2, by rw [h3]; rfl⟩
theorem fin_B {v v' : HdV} (h : FinO v v') (hB : v.B = true) : v'.B = true := by
  have hB' := (B_iff v).1 hB
  obtain ⟨a, b, c, d, e, f, g, i⟩ := hB'
  rw [sns_iff] at e
  rcases h with ⟨h1, rfl⟩ | ⟨h1, k, s, _, hs, rfl⟩ | ⟨h1, k, s, _, hs, rfl⟩ | ⟨h1, rfl⟩
  · have ht : 0 ≤ v.tg ∧ v.tg ≤ 4096 := by
      rcases (itB_iff v).1 i with i | i | i
      · exact i.2
      · omega
      · omega
    obtain ⟨a', b', c', d', e', f', g', _⟩ := (B_iff _).1 (res_B ht hB)
    exact idle_B ⟨a', b', c', d', (sns_iff _).1 e', f', g'⟩
  · exact idle_B ⟨a, b, c, bring_parts hB hs, e, f, g⟩
  · exact idle_B (rem_parts hB)
  · obtain ⟨d1, d2, d3, d4⟩ := (vw_iff _ _ _ _).1 d
    exact idle_B ⟨a, b, c, (vw_iff _ _ _ _).2 ⟨d1, d2, d3, rfl⟩, e, f, g⟩
end Go.Proofs.Ytiimanoloedbeaa

/-
  A snapshot is deleted from a row of the call's own (slices.Delete of one). Conditions: the row has fewer than a thousand.
-/
namespace Go.Proofs.Ytiimanoloedbeaa
open Go.RowKit Go.BigFrame
set_option linter.unusedSimpArgs false
set_option linter.unusedVariables false
set_option maxRecDepth 100000
/-- the beginning of a row, where what is behind it is written over -/
theorem own_prefix {w : World} {base size n c r : Nat} {e : TypeId} {xs : List Value} (h : w.ownsRow base e size (.slice (some ⟨r, 0, none⟩) n c) n xs) {i : Nat} (hi : i ≤ n) (vs : List Value) :
    (w.setCells r (i * size) vs).ownsRow base e size (.slice (some ⟨r, 0, none⟩) i c) i (xs.take (i * size)) := by
  rcases h.2 with ⟨h', _⟩ | ⟨g, cap, cur, hv, hb, hh, h1, h2, h3, h4⟩
  · cases h'
  · injection hv with e1 e2 e3
    injection e1 with e1
    injection e1 with e1
    subst e1 e3
    have hB : Blk w r e cur := hh
    obtain ⟨cur', hB', hs'⟩ := Blk.setCells_ vs (i * size) hB
    have him : i * size ≤ n * size := Nat.mul_le_mul_right _ hi
    have hnc : n * size ≤ c * size := Nat.mul_le_mul_right _ h1
    refine ⟨by rw [List.length_take, h.1]; omega, .inr ⟨r, c, cur', rfl, hb, hB', by omega, h2, by rw [hs', h3], ?_⟩⟩
    apply List.ext_getElem?
    intro j
    rw [List.getElem?_take, List.getElem?_take]
    by_cases hj : j < i * size
    · rw [if_pos hj, if_pos hj, ← h4, List.getElem?_take, if_pos (by omega)]
      have a1 := hB'.cell j
      have a2 := hB.cell j
      have a3 := World.cell?_setCells_out r vs (i * size) w ⟨r, j, none⟩ (fun _ _ => .inl hj)
      rw [Array.getElem?_toList, Array.getElem?_toList, ← a1, ← a2]
      exact a3
    · rw [if_neg hj, if_neg hj]
/-- a row's beginning -/
theorem own_head {w : World} {base size n c r : Nat} {e : TypeId} {xs : List Value} (h : w.ownsRow base e size (.slice (some ⟨r, 0, none⟩) n c) n xs) {i : Nat} (hi : i ≤ n) : w.ownsRow base e size (.slice (some ⟨r, 0, none⟩) i c) i (xs.take (i * size)) := by
  rcases h.2 with ⟨h', _⟩ | ⟨g, cap, cur, hv, hb, hh, h1, h2, h3, h4⟩
  · cases h'
  · injection hv with e1 e2 e3
    injection e1 with e1
    injection e1 with e1
    subst e1 e3
    have him : i * size ≤ n * size := Nat.mul_le_mul_right _ hi
    exact ⟨by rw [List.length_take, h.1]; omega, .inr ⟨r, c, cur, rfl, hb, hh, by omega, h2, h3, by rw [← h4, List.take_take, Nat.min_eq_left him]⟩⟩
/-- append where there is room -/
theorem run_append_into {P : Program} {w : World} (base : Nat) (t ty e : TypeId) (i : TypeInfo) (size : Nat) (ht : P.underlying t = some (.slice e)) (hi : P.info? e = some i) (hsize : i.size = size) (g n cap : Nat) (xs : List Value) (hown : w.ownsRow base e size (.slice (some ⟨g, 0, none⟩) n cap) n xs)
    (a : Addr) (m c : Nat) (news : List Value) (hl : news.length = m * size) (hnews : ∀ j u, news[j]? = some u → w.cell? (a.add j) = some u) (h1 : ∀ u ∈ news, u.oneCell' = true) (hroom : n + m ≤ cap) :
    ∃ w', (Builtin.append_ #[t, t] ty #[.slice (some ⟨g, 0, none⟩) n cap, .slice (some a) m c]).run P w = .ok (.slice (some ⟨g, 0, none⟩) (n + m) cap) w' ∧ w'.ownsRow base e size (.slice (some ⟨g, 0, none⟩) (n + m) cap) (n + m) (xs ++ news) ∧ Only [g] w w' := by
  subst hsize
  have hlen : (xs ++ news).length = (n + m) * i.size := by rw [List.length_append, hown.1, hl, Nat.add_mul]
  rcases hown.2 with ⟨h', _⟩ | ⟨g', cap', cur, hv, hbg, hg, hnc, hcm, hcs, htake⟩
  · cases h'
  · injection hv with e1 e2 e3
    injection e1 with e1
    injection e1 with e1
    subst e1 e3
    have hfit : n * i.size + news.length ≤ cur.size := by rw [hl, hcs, ← Nat.add_mul]; exact Nat.mul_le_mul_right _ hroom
    have hr := run_append_room (P := P) w t ty e i ht hi g n cap cur hg a m c news hl hnews h1 hroom hfit
    refine ⟨_, hr, ⟨hlen, .inr ⟨g, cap, _, rfl, hbg, setRow_heap w g cur _ e _ hg, hroom, hcm, ?_, ?_⟩⟩, ⟨rfl, rfl, rfl, by simp, fun k _ hk => setRow_other w g k _ (fun e => hk (by simp [e]))⟩⟩
    · simp only [List.size_toArray, List.length_append, List.length_take, List.length_drop, Array.length_toList]
      omega
    · rw [htake, ← hlen]
      exact List.take_left
theorem wp_append_into {P : Program} {w : World} {o : Oper} {a : Act} {K : Act → World → Prop} {Q : Exit → Act → World → Prop} (s x : Operand) (t : TypeId)
    (ho : o.op = .call { callee := .builtin .append, args := #[s, x], argTypes := #[t, t] })
    (base : Nat) (e : TypeId) (i : TypeInfo) (size : Nat) (ht : P.underlying t = some (.slice e)) (hi : P.info? e = some i) (hsize : i.size = size) (g n cap : Nat) (xs : List Value) (hs : a.eval s = .slice (some ⟨g, 0, none⟩) n cap) (hown : w.ownsRow base e size (.slice (some ⟨g, 0, none⟩) n cap) n xs)
    (ad : Addr) (m c : Nat) (news : List Value) (hx : a.eval x = .slice (some ad) m c) (hl : news.length = m * size) (hnews : ∀ j u, news[j]? = some u → w.cell? (ad.add j) = some u) (h1 : ∀ u ∈ news, u.oneCell' = true) (hroom : n + m ≤ cap)
    (h : ∀ w', w'.ownsRow base e size (.slice (some ⟨g, 0, none⟩) (n + m) cap) (n + m) (xs ++ news) → Only [g] w w' → K (a.put o.dst (.slice (some ⟨g, 0, none⟩) (n + m) cap)) w') : o.wp P a w K Q := by
  obtain ⟨w', hrun, h2, h3⟩ := run_append_into (P := P) base t o.type e i size ht hi hsize g n cap xs hown ad m c news hl hnews h1 hroom
  unfold Oper.wp execOp
  simp only [ho, resolve, invoke, builtin, Sem.run_bind, Sem.run_pure, Result.andThen_ok, List.map_toArray, List.map_cons, List.map_nil, hs, hx, hrun]
  exact h w' h2 h3
theorem run_full_sn (r n c i j : Nat) (h : i ≤ j) (h2 : j ≤ n) (hc : n ≤ c) (w : World) : ∃ v, (Instr.slice 32 (.slice (some ⟨r, 0, none⟩) n c) (some (.int .i64 (i : Int))) (some (.int .i64 (j : Int))) (some (.int .i64 (n : Int)))).run Try.prog w = .ok v w := by
  have hsz : ∀ w, (sizeOf (Try.prog.elem 32)).run Try.prog w = .ok 11 w := fun w => by kernel_rfl
  rw [run_slice_lhm w 32 (some ⟨r, 0, none⟩) n c (by kernel_rfl) .i64 .i64 .i64 (i : Int) (j : Int) (n : Int) (by omega) (by omega) (by omega) (by omega), hsz]
  exact ⟨_, rfl⟩
theorem run_head_sn (r n c i : Nat) (h : i ≤ c) (w : World) : (Instr.slice 32 (.slice (some ⟨r, 0, none⟩) n c) none (some (.int .i64 (i : Int))) none).run Try.prog w = .ok (.slice (some ⟨r, 0, none⟩) i c) w := by
  have hsz : ∀ w, (sizeOf (Try.prog.elem 32)).run Try.prog w = .ok 11 w := fun w => by kernel_rfl
  rw [run_slice_h w 32 (some ⟨r, 0, none⟩) n c (by kernel_rfl) .i64 (i : Int) (by omega) (by omega), hsz]
  simp [Result.andThen, sliced, Addr.add]
theorem run_tail_sn (r n c i : Nat) (h : i ≤ n) (hc : n ≤ c) (w : World) : ∃ ad : Addr, (Instr.slice 32 (.slice (some ⟨r, 0, none⟩) n c) (some (.int .i64 (i : Int))) none none).run Try.prog w = .ok (.slice (some ad) (n - i) (c - i)) w ∧ (i < n → ad = ⟨r, i * 11, none⟩) := by
  have hsz : ∀ w, (sizeOf (Try.prog.elem 32)).run Try.prog w = .ok 11 w := fun w => by kernel_rfl
  rw [run_slice_l w 32 (some ⟨r, 0, none⟩) n c (by kernel_rfl) .i64 (i : Int) (by omega) (by omega), hsz]
  simp only [Result.andThen, sliced, Int.toNat_natCast]
  by_cases hic : c = i
  · rw [if_pos hic]
    exact ⟨_, rfl, fun h => by omega⟩
  · rw [if_neg hic]
    refine ⟨_, rfl, fun _ => ?_⟩
    by_cases hz : i * 11 = 0 <;> simp [Addr.add, hz]
theorem run_mid_sn (r n c i : Nat) (h : i < n) (hc : n ≤ c) (m : Nat) (hm : m ≤ n) (w : World) : (Instr.slice 32 (.slice (some ⟨r, 0, none⟩) m c) (some (.int .i64 (i : Int))) (some (.int .i64 (n : Int))) none).run Try.prog w = .ok (.slice (some ⟨r, i * 11, none⟩) (n - i) (c - i)) w := by
  have hsz : ∀ w, (sizeOf (Try.prog.elem 32)).run Try.prog w = .ok 11 w := fun w => by kernel_rfl
  rw [run_slice_lh w 32 (some ⟨r, 0, none⟩) m c (by kernel_rfl) .i64 .i64 (i : Int) (n : Int) (by omega) (by omega) (by omega), hsz]
  simp only [Result.andThen, sliced, Int.toNat_natCast]
  rw [if_neg (by omega)]
  by_cases hz : i * 11 = 0 <;> simp [Addr.add, hz]
theorem run_clear_sn (w : World) (r o n c : Nat) (hn : 0 < n) (hc : ∀ j, j < n * 11 → (w.cell? ⟨r, o + j, none⟩).isSome = true) (hf : ∀ j, j < n * 11 → w.frozen? ⟨r, o + j, none⟩ = false) :
    ∃ vs : List Value, vs.length = n * 11 ∧ ∀ ty, (Builtin.clear_ #[32] ty #[.slice (some ⟨r, o, none⟩) n c]).run Try.prog w = .ok (.tuple #[]) (w.setCells r o vs) := by
  have hv : ∀ w, (zeroValue 66).run Try.prog w = .ok (.agg #[.int .i64 0, .int .i64 0, .string ⟨#[]⟩, .bool false, .bool false, .bool false, .slice none 0 0, .string ⟨#[]⟩, .int .i64 0, .int .i64 0, .slice none 0 0]) w := fun w => by kernel_rfl
  have ht : Try.prog.underlying 32 = some (.slice 66) := by kernel_rfl
  obtain ⟨z, hz⟩ : ∃ z : Array Value, z = #[.int .i64 0, .int .i64 0, .string ⟨#[]⟩, .bool false, .bool false, .bool false, .slice none 0 0, .string ⟨#[]⟩, .int .i64 0, .int .i64 0, .slice none 0 0] := ⟨_, rfl⟩
  have hz11 : z.size = 11 := by rw [hz]; rfl
  have hz1 : ∀ v ∈ z.toList, v.oneCell' = true := List.all_eq_true.1 (by rw [hz]; rfl)
  rw [← hz] at hv
  clear hz
  have hlen : (Builtin.zeroCells z n).size = n * 11 := by rw [size_zeroCells, hz11]
  have hone : ∀ v ∈ (Builtin.zeroCells z n).toList, v.oneCell' = true := by
    intro v hv
    simp [Builtin.zeroCells] at hv
    obtain ⟨j, hj, rfl⟩ := hv
    have hjz : j % z.size < z.size := Nat.mod_lt _ (by omega)
    refine hz1 _ ?_
    first
      | (rw [Array.getElem?_eq_getElem hjz]; exact Array.getElem_mem_toList hjz)
      | simp [hjz]
  have hst := run_storeCells_cells (P := Try.prog) r o (Builtin.zeroCells z n).toList 0 w (by simpa [hlen] using hc) (by simpa [hlen] using hf) hone
  simp only [Nat.add_zero] at hst
  refine ⟨(Builtin.zeroCells z n).toList, by simpa using hlen, fun ty => ?_⟩
  obtain ⟨m, rfl⟩ : ∃ m, n = m + 1 := ⟨n - 1, by omega⟩
  simp [Builtin.clear_, run_underlying ht, hv, hst, Value.cells]
theorem flat_take11 (l : List SA) (k : Nat) (hk : k ≤ l.length) : (l.take k).flatMap SA.cells = (l.flatMap SA.cells).take (k * 11) := by
  have e : l.flatMap SA.cells = (l.take k).flatMap SA.cells ++ (l.drop k).flatMap SA.cells := by rw [← List.flatMap_append, List.take_append_drop]
  have h2 : ((l.take k).flatMap SA.cells).length = k * 11 := by rw [flat_len11, List.length_take]; omega
  rw [e, ← h2, List.take_left]
theorem flat_drop11 (l : List SA) (k : Nat) (hk : k ≤ l.length) : (l.drop k).flatMap SA.cells = (l.flatMap SA.cells).drop (k * 11) := by
  have e : l.flatMap SA.cells = (l.take k).flatMap SA.cells ++ (l.drop k).flatMap SA.cells := by rw [← List.flatMap_append, List.take_append_drop]
  have h2 : ((l.take k).flatMap SA.cells).length = k * 11 := by rw [flat_len11, List.length_take]; omega
  rw [e, ← h2, List.drop_left]
theorem cells_one (l : List SA) : ∀ u ∈ l.flatMap SA.cells, u.oneCell' = true := flat_one SA.cells (fun s u hu => by
  simp [SA.cells] at hu
  rcases hu with h | h | h | h | h | h | h | h | h | h | h <;> subst h <;> rfl) l
/-- what deleting one comes to -/
def DelSTo (w : World) (base r n c : Nat) (l : List SA) (i : Nat) (e : Ending) (w' : World) : Prop := e = .returned (.slice (some ⟨r, 0, none⟩) (n - 1) c) ∧ w'.ownsRow base 66 11 (.slice (some ⟨r, 0, none⟩) (n - 1) c) (n - 1) ((l.eraseIdx i).flatMap SA.cells) ∧ Only [r] w w'
set_option maxHeartbeats 8000000 in
theorem delsn_any (w : World) (base r n c i : Nat) (l : List SA) (h : w.ownsRow base 66 11 (.slice (some ⟨r, 0, none⟩) n c) n (l.flatMap SA.cells)) (hl : l.length = n) (hi : i < n) (hn : n ≤ 1000) :
    Calls Try.prog 160 #[.slice (some ⟨r, 0, none⟩) n c, .int .i64 (i : Int), .int .i64 ((i : Int) + 1)] w (DelSTo w base r n c l i) := by
  obtain ⟨-, hnc, -, -⟩ := own_shape h
  obtain ⟨v13, h13⟩ := run_full_sn r n c i (i + 1) (by omega) (by omega) hnc w
  rw [show (((i + 1 : Nat)) : Int) = (i : Int) + 1 by omega] at h13
  have hs1 : ∀ w, _ := run_head_sn r n c i (by omega)
  obtain ⟨ad, hs2, had⟩ := run_tail_sn r n c (i + 1) (by omega) hnc w
  rw [show (((i + 1 : Nat)) : Int) = (i : Int) + 1 by omega] at hs2
  have hs2 : ∀ w, (Instr.slice 32 (.slice (some ⟨r, 0, none⟩) n c) (some (.int .i64 ((i : Int) + 1))) none none).run Try.prog w = .ok (.slice (some ad) (n - (i + 1)) (c - (i + 1))) w := fun w' => by
    obtain ⟨ad2, h2, hd2⟩ := run_tail_sn r n c (i + 1) (by omega) hnc w'
    rw [show (((i + 1 : Nat)) : Int) = (i : Int) + 1 by omega] at h2
    have : ad2 = ad := by
      have hsz : ∀ w, (sizeOf (Try.prog.elem 32)).run Try.prog w = .ok 11 w := fun w => by kernel_rfl
      rw [run_slice_l w' 32 (some ⟨r, 0, none⟩) n c (by kernel_rfl) .i64 ((i : Int) + 1) (by omega) (by omega), hsz] at h2
      rw [run_slice_l w 32 (some ⟨r, 0, none⟩) n c (by kernel_rfl) .i64 ((i : Int) + 1) (by omega) (by omega), hsz] at hs2
      simp only [Result.andThen] at h2 hs2
      injection h2 with h2
      injection hs2 with hs2
      rw [h2] at hs2
      injection hs2 with hs2
      injection hs2
    rw [this] at h2
    exact h2
  have hd : ((i : Int) == (i : Int) + 1) = false := beq_eq_false_iff_ne.2 (by omega)
  have HW := Lib.hid h
  have HF := Lib.hid (And.intro hl (And.intro hi (And.intro hn (And.intro hnc had))))
  clear h had
  go_enter Try.func160, Try.ntmps160
  go_upto_region 5 with (fail)
  have hS : True := trivial
  refine any_beginL (fun _ => True) 99 (by kernel_rfl) ?_
  refine S_take (i := 0) (v := .slice (some ⟨r, 0, none⟩) n c) rfl rfl (by kernel_rfl) (by kernel_rfl) (by kernel_rfl) (fun _ _ _ h => h) (Or.inl ⟨by rfl, fun W hw => by go_simp⟩) hS ?_
  simp only [Act.put, List.getElem_toArray, List.getElem_cons_succ, List.getElem_cons_zero, List.setIfInBounds_toArray, List.set_cons_zero, List.set_cons_succ]
  refine S_take (i := 1) (v := .int .i64 (i : Int)) rfl rfl (by kernel_rfl) (by kernel_rfl) (by kernel_rfl) (fun _ _ _ h => h) (Or.inl ⟨by rfl, fun W hw => by go_simp⟩) hS ?_
  simp only [Act.put, List.getElem_toArray, List.getElem_cons_succ, List.getElem_cons_zero, List.setIfInBounds_toArray, List.set_cons_zero, List.set_cons_succ]
  refine S_take (i := 2) (v := .slice (some ⟨r, 0, none⟩) i c) rfl rfl (by kernel_rfl) (by kernel_rfl) (by kernel_rfl) (fun _ _ _ h => h) (Or.inl ⟨by rfl, fun W hw => by have k1 := hs1 W; go_simp⟩) hS ?_
  simp only [Act.put, List.getElem_toArray, List.getElem_cons_succ, List.getElem_cons_zero, List.setIfInBounds_toArray, List.set_cons_zero, List.set_cons_succ]
  refine S_take (i := 3) (v := .slice (some ⟨r, 0, none⟩) n c) rfl rfl (by kernel_rfl) (by kernel_rfl) (by kernel_rfl) (fun _ _ _ h => h) (Or.inl ⟨by rfl, fun W hw => by go_simp⟩) hS ?_
  simp only [Act.put, List.getElem_toArray, List.getElem_cons_succ, List.getElem_cons_zero, List.setIfInBounds_toArray, List.set_cons_zero, List.set_cons_succ]
  refine S_take (i := 4) (v := .int .i64 ((i : Int) + 1)) rfl rfl (by kernel_rfl) (by kernel_rfl) (by kernel_rfl) (fun _ _ _ h => h) (Or.inl ⟨by rfl, fun W hw => by go_simp⟩) hS ?_
  simp only [Act.put, List.getElem_toArray, List.getElem_cons_succ, List.getElem_cons_zero, List.setIfInBounds_toArray, List.set_cons_zero, List.set_cons_succ]
  refine S_take (i := 5) (v := .slice (some ad) (n - (i + 1)) (c - (i + 1))) rfl rfl (by kernel_rfl) (by kernel_rfl) (by kernel_rfl) (fun _ _ _ h => h) (Or.inl ⟨by rfl, fun W hw => by have k1 := hs2 W; go_simp⟩) hS ?_
  simp only [Act.put, List.getElem_toArray, List.getElem_cons_succ, List.getElem_cons_zero, List.setIfInBounds_toArray, List.set_cons_zero, List.set_cons_succ]
  refine L_one (j := 6) (by kernel_rfl) rfl (by rfl) ?_
  simp only [Act.put, List.getElem_toArray, List.getElem_cons_succ, List.getElem_cons_zero, List.setIfInBounds_toArray, List.set_cons_zero, List.set_cons_succ]
  have h0 := own_below HW.out ((Below.refl w.heap.size w).drew)
  obtain ⟨i0, hi0, hz0', hz1', hz2'⟩ := info_parts snap_info
  have hnw : ∀ j u, ((l.flatMap SA.cells).drop ((i + 1) * 11))[j]? = some u → w.drew.cell? (ad.add j) = some u := fun j u hu => by
    have hlt : i + 1 < n := by
      have := (List.getElem?_eq_some_iff.1 hu).1
      rw [List.length_drop, flat_len11] at this
      have := HF.out.1
      omega
    rw [HF.out.2.2.2.2 hlt]
    rw [List.getElem?_drop] at hu
    have hjl := (List.getElem?_eq_some_iff.1 hu).1
    rw [flat_len11] at hjl
    have e : (⟨r, (i + 1) * 11, none⟩ : Addr).add j = ⟨r, (i + 1) * 11 + j, none⟩ := by unfold Addr.add; split <;> simp_all
    rw [e]
    exact (World.ownsRow.cellAt h0 ((i + 1) * 11 + j) (by have := HF.out.1; omega)).trans hu
  refine wp_append_into (.tmp 22) (.tmp 25) 32 rfl base 66 i0 11 Try.underlying32 hi0 hz1' r i c _ rfl (own_head h0 (by omega)) ad (n - (i + 1)) (c - (i + 1)) ((l.flatMap SA.cells).drop ((i + 1) * 11)) rfl (by rw [List.length_drop, flat_len11]; have := HF.out.1; omega) hnw (fun u hu => cells_one l u (List.mem_of_mem_drop hu)) (by omega) ?_
  intro W6 h8 o8
  replace o8 : Only [r] w W6 := ⟨o8.os, o8.tape, o8.output, o8.size, o8.block⟩
  rw [show i + (n - (i + 1)) = n - 1 by omega] at h8 ⊢
  refine ⟨hS, ?_⟩
  simp only [Act.put, List.getElem_toArray, List.getElem_cons_succ, List.getElem_cons_zero, List.setIfInBounds_toArray, List.set_cons_zero, List.set_cons_succ]
  refine S_take (i := 7) (v := .slice (some ⟨r, 0, none⟩) (n - 1) c) rfl rfl (by kernel_rfl) (by kernel_rfl) (by kernel_rfl) (fun _ _ _ h => h) (Or.inl ⟨by rfl, fun W hw => by go_simp⟩) hS ?_
  simp only [Act.put, List.getElem_toArray, List.getElem_cons_succ, List.getElem_cons_zero, List.setIfInBounds_toArray, List.set_cons_zero, List.set_cons_succ]
  refine L_done (by kernel_rfl) ?_
  refine NoPanic.normal ?_
  have H8 := Lib.hid h8
  have O8 := Lib.hid o8
  clear hS h8 o8 hs1 hs2 h13
  have hmid := run_mid_sn r n c (n - 1) (by omega) hnc (n - 1) (by omega) W6
  have hcells : ∀ m, m < 1 * 11 → (W6.cell? ⟨r, (n - 1) * 11 + m, none⟩).isSome = true ∧ W6.frozen? ⟨r, (n - 1) * 11 + m, none⟩ = false := fun m hm => by
    rcases H8.out.2 with ⟨h', _⟩ | ⟨g', cap, cur, hv, hb, hh, h1, h2, h3, h4⟩
    · cases h'
    · injection hv with e1 e2 e3
      injection e1 with e1
      injection e1 with e1
      subst e1 e3
      have hB : Blk W6 r 66 cur := hh
      refine ⟨?_, hB.frozen _⟩
      rw [hB.cell, Array.getElem?_eq_getElem (by rw [h3]; omega)]
      rfl
  obtain ⟨vs, -, hclr⟩ := run_clear_sn W6 r ((n - 1) * 11) 1 (c - (n - 1)) (by omega) (fun m hm => (hcells m hm).1) (fun m hm => (hcells m hm).2)
  obtain ⟨w5, hw5⟩ : ∃ w5, w5 = W6.setCells r ((n - 1) * 11) vs := ⟨_, rfl⟩
  have hown5 := own_prefix H8.out (i := n - 1) (Nat.le_refl _) vs
  rw [← hw5, List.take_of_length_le (by rw [H8.out.1]; exact Nat.le_refl _)] at hown5
  have ho5 : Only [r] w w5 := by rw [hw5]; exact O8.out.grown (setCells_grown r _ ((n - 1) * 11) W6).1 (fun k e => .inl (by injection e with e; simp [e]))
  have HFIN : Hid (DelSTo w base r n c l i (.returned (.slice (some ⟨r, 0, none⟩) (n - 1) c)) w5) := Lib.hid (by
    refine ⟨rfl, ?_, ho5⟩
    rw [List.eraseIdx_eq_take_drop_succ, List.flatMap_append, flat_take11 l i (by omega), flat_drop11 l (i + 1) (by omega)]
    exact hown5)
  have hclr2 : ∀ ty, (Builtin.clear_ #[32] ty #[.slice (some ⟨r, (n - 1) * 11, none⟩) 1 (c - (n - 1))]).run Try.prog W6 = .ok (.tuple #[]) w5 := fun ty => by rw [hw5]; exact hclr ty
  have e1 : n - (n - 1) = 1 := by omega
  rw [e1] at hmid
  have e2 : ((n - 1 : Nat) : Int) = (n : Int) - 1 := by omega
  clear hclr hw5 hown5 ho5 hcells e1 e2
  go_wp2
  go_ret
  exact HFIN.out
end Go.Proofs.Ytiimanoloedbeaa

/-
  Where a head or a snapshot tells of its marks (ofHead, ofSnap). Conditions: the head's block is known, or the snapshot's cells.
-/
namespace Go.Proofs.Ytiimanoloedbeaa
open Go.RowKit Go.BigFrame
set_option linter.unusedSimpArgs false
set_option linter.unusedVariables false
set_option maxRecDepth 100000
theorem view_zero (w : World) : (zeroValue 163).run Try.prog w = .ok (.agg #[.bool false, .pointer none, .slice none 0 0]) w := by kernel_rfl
set_option maxHeartbeats 8000000 in
theorem ofhead_any (w : World) (g : Nat) (c : HA) (k : Blk w g 36 c.cs) : Calls Try.prog 133 #[.pointer (some ⟨g, 0, none⟩)] w fun e w' => e = .returned (.agg #[.bool c.vw.on, .pointer (some ⟨g, 6, none⟩), .slice c.vw.M c.vw.row.length c.vw.cm]) ∧ Below w.heap.size w w' := by
  obtain ⟨W1, hW1⟩ : ∃ W, W = w.alloc (.cells #[.bool false, .pointer none, .slice none 0 0] 163) := ⟨_, rfl⟩
  have hb : Below w.heap.size w W1 := by rw [hW1]; exact below_alloc w _
  have k1 : Blk W1 w.heap.size 163 #[.bool false, .pointer none, .slice none 0 0] := by rw [hW1]; exact Blk.new w _ _
  have hz : W1.heap.size = w.heap.size + 1 := by rw [hW1]; simp
  have H1 := Lib.hid (And.intro hb (And.intro k1 hz))
  have HW1 := Lib.hid hW1
  have hz0 := view_zero
  have HC : Hid (∀ W', Below W1.heap.size W1 W' → W'.cell? ⟨g, 5, none⟩ = some (.bool c.vw.on) ∧ W'.cell? ⟨g, 7, none⟩ = some (.slice c.vw.M c.vw.row.length c.vw.cm)) := Lib.hid fun W' hW' => by
    have k1 : Blk w g 36 #[.int .i64 c.id, .int .i64 c.vw.size, .int .i64 c.obj, .int .i64 c.seq, .slice c.S c.sn.length c.cs', .bool c.vw.on, .bool c.vw.good, .slice c.vw.M c.vw.row.length c.vw.cm, .string (strOf c.vw.par), .int .i64 c.vw.ps, .int .i64 c.vw.ov, .int .i64 c.ow, .int .i64 c.it, .int .i64 c.tg] := k
    have k2 := (k1.of (hb.block _ k.lt)).of (hW'.block _ (by have := k.lt; omega))
    exact ⟨k2.cell 5, k2.cell 7⟩
  clear k
  clear hb k1 hz hW1
  go_enter Try.func133, Try.ntmps133
  go_upto_region 1 with (fail)
  rw [← HW1.out]
  clear HW1
  have hS : Below W1.heap.size W1 W1.drew := (Below.refl _ W1).drew
  refine any_beginL (fun W' => Below W1.heap.size W1 W') 12 (by kernel_rfl) ?_
  refine L_take (i := 0) (v := .pointer (some ⟨g, 0, none⟩)) rfl rfl (by kernel_rfl) (by kernel_rfl) (by kernel_rfl) (by kernel_rfl) (fun _ _ _ h => h) (Or.inl ⟨by rfl, fun W' hw => by go_simp⟩) hS ?_
  simp only [Act.put, List.getElem_toArray, List.getElem_cons_succ, List.getElem_cons_zero, List.setIfInBounds_toArray, List.set_cons_zero, List.set_cons_succ]
  refine L_take (i := 1) (v := .pointer (some ⟨g, 0, none⟩)) rfl rfl (by kernel_rfl) (by kernel_rfl) (by kernel_rfl) (by kernel_rfl) (fun _ _ _ h => h) (Or.inl ⟨by rfl, fun W' hw => by go_simp⟩) hS ?_
  simp only [Act.put, List.getElem_toArray, List.getElem_cons_succ, List.getElem_cons_zero, List.setIfInBounds_toArray, List.set_cons_zero, List.set_cons_succ]
  refine L_take (i := 2) (v := .pointer (some ⟨g, 5, none⟩)) rfl rfl (by kernel_rfl) (by kernel_rfl) (by kernel_rfl) (by kernel_rfl) (fun _ _ _ h => h) (Or.inl ⟨by rfl, fun W' hw => by go_simp⟩) hS ?_
  simp only [Act.put, List.getElem_toArray, List.getElem_cons_succ, List.getElem_cons_zero, List.setIfInBounds_toArray, List.set_cons_zero, List.set_cons_succ]
  refine L_take (i := 3) (v := .bool c.vw.on) rfl rfl (by kernel_rfl) (by kernel_rfl) (by kernel_rfl) (by kernel_rfl) (fun _ _ _ h => h) (Or.inl ⟨by rfl, fun W' hw => by have k1 := HC.out W' hw; have k2 := k1.1; go_simp⟩) hS ?_
  simp only [Act.put, List.getElem_toArray, List.getElem_cons_succ, List.getElem_cons_zero, List.setIfInBounds_toArray, List.set_cons_zero, List.set_cons_succ]
  refine L_take (i := 4) (v := .pointer (some ⟨g, 0, none⟩)) rfl rfl (by kernel_rfl) (by kernel_rfl) (by kernel_rfl) (by kernel_rfl) (fun _ _ _ h => h) (Or.inl ⟨by rfl, fun W' hw => by go_simp⟩) hS ?_
  simp only [Act.put, List.getElem_toArray, List.getElem_cons_succ, List.getElem_cons_zero, List.setIfInBounds_toArray, List.set_cons_zero, List.set_cons_succ]
  refine L_take (i := 5) (v := .pointer (some ⟨g, 0, none⟩)) rfl rfl (by kernel_rfl) (by kernel_rfl) (by kernel_rfl) (by kernel_rfl) (fun _ _ _ h => h) (Or.inl ⟨by rfl, fun W' hw => by go_simp⟩) hS ?_
  simp only [Act.put, List.getElem_toArray, List.getElem_cons_succ, List.getElem_cons_zero, List.setIfInBounds_toArray, List.set_cons_zero, List.set_cons_succ]
  refine L_take (i := 6) (v := .pointer (some ⟨g, 6, none⟩)) rfl rfl (by kernel_rfl) (by kernel_rfl) (by kernel_rfl) (by kernel_rfl) (fun _ _ _ h => h) (Or.inl ⟨by rfl, fun W' hw => by go_simp⟩) hS ?_
  simp only [Act.put, List.getElem_toArray, List.getElem_cons_succ, List.getElem_cons_zero, List.setIfInBounds_toArray, List.set_cons_zero, List.set_cons_succ]
  refine L_take (i := 7) (v := .pointer (some ⟨g, 0, none⟩)) rfl rfl (by kernel_rfl) (by kernel_rfl) (by kernel_rfl) (by kernel_rfl) (fun _ _ _ h => h) (Or.inl ⟨by rfl, fun W' hw => by go_simp⟩) hS ?_
  simp only [Act.put, List.getElem_toArray, List.getElem_cons_succ, List.getElem_cons_zero, List.setIfInBounds_toArray, List.set_cons_zero, List.set_cons_succ]
  refine L_take (i := 8) (v := .pointer (some ⟨g, 0, none⟩)) rfl rfl (by kernel_rfl) (by kernel_rfl) (by kernel_rfl) (by kernel_rfl) (fun _ _ _ h => h) (Or.inl ⟨by rfl, fun W' hw => by go_simp⟩) hS ?_
  simp only [Act.put, List.getElem_toArray, List.getElem_cons_succ, List.getElem_cons_zero, List.setIfInBounds_toArray, List.set_cons_zero, List.set_cons_succ]
  refine L_take (i := 9) (v := .pointer (some ⟨g, 7, none⟩)) rfl rfl (by kernel_rfl) (by kernel_rfl) (by kernel_rfl) (by kernel_rfl) (fun _ _ _ h => h) (Or.inl ⟨by rfl, fun W' hw => by go_simp⟩) hS ?_
  simp only [Act.put, List.getElem_toArray, List.getElem_cons_succ, List.getElem_cons_zero, List.setIfInBounds_toArray, List.set_cons_zero, List.set_cons_succ]
  refine L_take (i := 10) (v := .slice c.vw.M c.vw.row.length c.vw.cm) rfl rfl (by kernel_rfl) (by kernel_rfl) (by kernel_rfl) (by kernel_rfl) (fun _ _ _ h => h) (Or.inl ⟨by rfl, fun W' hw => by have k1 := HC.out W' hw; have k2 := k1.2; go_simp⟩) hS ?_
  simp only [Act.put, List.getElem_toArray, List.getElem_cons_succ, List.getElem_cons_zero, List.setIfInBounds_toArray, List.set_cons_zero, List.set_cons_succ]
  refine L_take (i := 11) (v := .agg #[.bool c.vw.on, .pointer (some ⟨g, 6, none⟩), .slice c.vw.M c.vw.row.length c.vw.cm]) rfl rfl (by kernel_rfl) (by kernel_rfl) (by kernel_rfl) (by kernel_rfl) (fun _ _ _ h => h) (Or.inl ⟨by rfl, fun W' hw => by go_simp⟩) hS ?_
  simp only [Act.put, List.getElem_toArray, List.getElem_cons_succ, List.getElem_cons_zero, List.setIfInBounds_toArray, List.set_cons_zero, List.set_cons_succ]
  refine L_last (by kernel_rfl) rfl (by rfl) (by kernel_rfl) ?_
  simp only [Act.put, List.getElem_toArray, List.getElem_cons_succ, List.getElem_cons_zero, List.setIfInBounds_toArray, List.set_cons_zero, List.set_cons_succ]
  have hK : Blk W1.drew w.heap.size 163 #[.bool false, .pointer none, .slice none 0 0] := H1.out.2.1
  refine wp_storeq 163 (.tmp 2) (.tmp 14) rfl w.heap.size _ [.bool c.vw.on, .pointer (some ⟨g, 6, none⟩), .slice c.vw.M c.vw.row.length c.vw.cm] rfl rfl hK (by simp) (by kernel_rfl) (by intro u hu; simp at hu; rcases hu with h | h | h <;> subst h <;> rfl) ?_
  intro w9 K9 o9 s9
  refine NoPanic.normal ?_
  have H9 : Hid (Below w.heap.size w w9) := Lib.hid (H1.out.1.trans ((hS.mono (by have := H1.out.2.2; omega : w.heap.size ≤ W1.heap.size)).trans (o9.below (fun x hx => by simp at hx; omega) (by have := H1.out.1.size; exact this))))
  clear hS o9 s9 hK
  go_wp2
  refine bodyPost_ret (results_cell_row rfl _ _ w.heap.size 163 _ (0, 0) _ rfl K9 Try.underlying163 rfl (by kernel_rfl)) rfl ?_
  exact ⟨rfl, H9.out⟩
set_option maxHeartbeats 8000000 in
theorem ofsnap_any (w : World) (gS o : Nat) (s : SA) (hg : gS < w.heap.size) (h5 : w.cell? ⟨gS, o + 3, none⟩ = some (.bool s.vw.on)) (h7 : w.cell? ⟨gS, o + 6, none⟩ = some (.slice s.vw.M s.vw.row.length s.vw.cm)) : Calls Try.prog 134 #[.pointer (some ⟨gS, o, none⟩)] w fun e w' => e = .returned (.agg #[.bool s.vw.on, .pointer (some ⟨gS, o + 4, none⟩), .slice s.vw.M s.vw.row.length s.vw.cm]) ∧ Below w.heap.size w w' := by
  obtain ⟨W1, hW1⟩ : ∃ W, W = w.alloc (.cells #[.bool false, .pointer none, .slice none 0 0] 163) := ⟨_, rfl⟩
  have hb : Below w.heap.size w W1 := by rw [hW1]; exact below_alloc w _
  have k1 : Blk W1 w.heap.size 163 #[.bool false, .pointer none, .slice none 0 0] := by rw [hW1]; exact Blk.new w _ _
  have hz : W1.heap.size = w.heap.size + 1 := by rw [hW1]; simp
  have H1 := Lib.hid (And.intro hb (And.intro k1 hz))
  have HW1 := Lib.hid hW1
  have hz0 := view_zero
  have HC : Hid (∀ W', Below W1.heap.size W1 W' → W'.cell? ⟨gS, o + 3, none⟩ = some (.bool s.vw.on) ∧ W'.cell? ⟨gS, o + 6, none⟩ = some (.slice s.vw.M s.vw.row.length s.vw.cm)) := Lib.hid fun W' hW' => by
    have q := hW'.block gS (by omega)
    exact ⟨(World.cell?_of_block (a := ⟨gS, o + 3, none⟩) q).trans ((World.cell?_of_block (a := ⟨gS, o + 3, none⟩) (hb.block gS hg)).trans h5), (World.cell?_of_block (a := ⟨gS, o + 6, none⟩) q).trans ((World.cell?_of_block (a := ⟨gS, o + 6, none⟩) (hb.block gS hg)).trans h7)⟩
  clear h5 h7
  clear hb k1 hz hW1
  go_enter Try.func134, Try.ntmps134
  go_upto_region 1 with (fail)
  rw [← HW1.out]
  clear HW1
  have hS : Below W1.heap.size W1 W1.drew := (Below.refl _ W1).drew
  refine any_beginL (fun W' => Below W1.heap.size W1 W') 12 (by kernel_rfl) ?_
  refine L_take (i := 0) (v := .pointer (some ⟨gS, o, none⟩)) rfl rfl (by kernel_rfl) (by kernel_rfl) (by kernel_rfl) (by kernel_rfl) (fun _ _ _ h => h) (Or.inl ⟨by rfl, fun W' hw => by go_simp⟩) hS ?_
  simp only [Act.put, List.getElem_toArray, List.getElem_cons_succ, List.getElem_cons_zero, List.setIfInBounds_toArray, List.set_cons_zero, List.set_cons_succ]
  refine L_take (i := 1) (v := .pointer (some ⟨gS, o, none⟩)) rfl rfl (by kernel_rfl) (by kernel_rfl) (by kernel_rfl) (by kernel_rfl) (fun _ _ _ h => h) (Or.inl ⟨by rfl, fun W' hw => by go_simp⟩) hS ?_
  simp only [Act.put, List.getElem_toArray, List.getElem_cons_succ, List.getElem_cons_zero, List.setIfInBounds_toArray, List.set_cons_zero, List.set_cons_succ]
  refine L_take (i := 2) (v := .pointer (some ⟨gS, o + 3, none⟩)) rfl rfl (by kernel_rfl) (by kernel_rfl) (by kernel_rfl) (by kernel_rfl) (fun _ _ _ h => h) (Or.inl ⟨by rfl, fun W' hw => by go_simp⟩) hS ?_
  simp only [Act.put, List.getElem_toArray, List.getElem_cons_succ, List.getElem_cons_zero, List.setIfInBounds_toArray, List.set_cons_zero, List.set_cons_succ]
  refine L_take (i := 3) (v := .bool s.vw.on) rfl rfl (by kernel_rfl) (by kernel_rfl) (by kernel_rfl) (by kernel_rfl) (fun _ _ _ h => h) (Or.inl ⟨by rfl, fun W' hw => by have k1 := HC.out W' hw; have k2 := k1.1; go_simp⟩) hS ?_
  simp only [Act.put, List.getElem_toArray, List.getElem_cons_succ, List.getElem_cons_zero, List.setIfInBounds_toArray, List.set_cons_zero, List.set_cons_succ]
  refine L_take (i := 4) (v := .pointer (some ⟨gS, o, none⟩)) rfl rfl (by kernel_rfl) (by kernel_rfl) (by kernel_rfl) (by kernel_rfl) (fun _ _ _ h => h) (Or.inl ⟨by rfl, fun W' hw => by go_simp⟩) hS ?_
  simp only [Act.put, List.getElem_toArray, List.getElem_cons_succ, List.getElem_cons_zero, List.setIfInBounds_toArray, List.set_cons_zero, List.set_cons_succ]
  refine L_take (i := 5) (v := .pointer (some ⟨gS, o, none⟩)) rfl rfl (by kernel_rfl) (by kernel_rfl) (by kernel_rfl) (by kernel_rfl) (fun _ _ _ h => h) (Or.inl ⟨by rfl, fun W' hw => by go_simp⟩) hS ?_
  simp only [Act.put, List.getElem_toArray, List.getElem_cons_succ, List.getElem_cons_zero, List.setIfInBounds_toArray, List.set_cons_zero, List.set_cons_succ]
  refine L_take (i := 6) (v := .pointer (some ⟨gS, o + 4, none⟩)) rfl rfl (by kernel_rfl) (by kernel_rfl) (by kernel_rfl) (by kernel_rfl) (fun _ _ _ h => h) (Or.inl ⟨by rfl, fun W' hw => by go_simp⟩) hS ?_
  simp only [Act.put, List.getElem_toArray, List.getElem_cons_succ, List.getElem_cons_zero, List.setIfInBounds_toArray, List.set_cons_zero, List.set_cons_succ]
  refine L_take (i := 7) (v := .pointer (some ⟨gS, o, none⟩)) rfl rfl (by kernel_rfl) (by kernel_rfl) (by kernel_rfl) (by kernel_rfl) (fun _ _ _ h => h) (Or.inl ⟨by rfl, fun W' hw => by go_simp⟩) hS ?_
  simp only [Act.put, List.getElem_toArray, List.getElem_cons_succ, List.getElem_cons_zero, List.setIfInBounds_toArray, List.set_cons_zero, List.set_cons_succ]
  refine L_take (i := 8) (v := .pointer (some ⟨gS, o, none⟩)) rfl rfl (by kernel_rfl) (by kernel_rfl) (by kernel_rfl) (by kernel_rfl) (fun _ _ _ h => h) (Or.inl ⟨by rfl, fun W' hw => by go_simp⟩) hS ?_
  simp only [Act.put, List.getElem_toArray, List.getElem_cons_succ, List.getElem_cons_zero, List.setIfInBounds_toArray, List.set_cons_zero, List.set_cons_succ]
  refine L_take (i := 9) (v := .pointer (some ⟨gS, o + 6, none⟩)) rfl rfl (by kernel_rfl) (by kernel_rfl) (by kernel_rfl) (by kernel_rfl) (fun _ _ _ h => h) (Or.inl ⟨by rfl, fun W' hw => by go_simp⟩) hS ?_
  simp only [Act.put, List.getElem_toArray, List.getElem_cons_succ, List.getElem_cons_zero, List.setIfInBounds_toArray, List.set_cons_zero, List.set_cons_succ]
  refine L_take (i := 10) (v := .slice s.vw.M s.vw.row.length s.vw.cm) rfl rfl (by kernel_rfl) (by kernel_rfl) (by kernel_rfl) (by kernel_rfl) (fun _ _ _ h => h) (Or.inl ⟨by rfl, fun W' hw => by have k1 := HC.out W' hw; have k2 := k1.2; go_simp⟩) hS ?_
  simp only [Act.put, List.getElem_toArray, List.getElem_cons_succ, List.getElem_cons_zero, List.setIfInBounds_toArray, List.set_cons_zero, List.set_cons_succ]
  refine L_take (i := 11) (v := .agg #[.bool s.vw.on, .pointer (some ⟨gS, o + 4, none⟩), .slice s.vw.M s.vw.row.length s.vw.cm]) rfl rfl (by kernel_rfl) (by kernel_rfl) (by kernel_rfl) (by kernel_rfl) (fun _ _ _ h => h) (Or.inl ⟨by rfl, fun W' hw => by go_simp⟩) hS ?_
  simp only [Act.put, List.getElem_toArray, List.getElem_cons_succ, List.getElem_cons_zero, List.setIfInBounds_toArray, List.set_cons_zero, List.set_cons_succ]
  refine L_last (by kernel_rfl) rfl (by rfl) (by kernel_rfl) ?_
  simp only [Act.put, List.getElem_toArray, List.getElem_cons_succ, List.getElem_cons_zero, List.setIfInBounds_toArray, List.set_cons_zero, List.set_cons_succ]
  have hK : Blk W1.drew w.heap.size 163 #[.bool false, .pointer none, .slice none 0 0] := H1.out.2.1
  refine wp_storeq 163 (.tmp 2) (.tmp 14) rfl w.heap.size _ [.bool s.vw.on, .pointer (some ⟨gS, o + 4, none⟩), .slice s.vw.M s.vw.row.length s.vw.cm] rfl rfl hK (by simp) (by kernel_rfl) (by intro u hu; simp at hu; rcases hu with h | h | h <;> subst h <;> rfl) ?_
  intro w9 K9 o9 s9
  refine NoPanic.normal ?_
  have H9 : Hid (Below w.heap.size w w9) := Lib.hid (H1.out.1.trans ((hS.mono (by have := H1.out.2.2; omega : w.heap.size ≤ W1.heap.size)).trans (o9.below (fun x hx => by simp at hx; omega) (by have := H1.out.1.size; exact this))))
  clear hS o9 s9 hK
  go_wp2
  refine bodyPost_ret (results_cell_row rfl _ _ w.heap.size 163 _ (0, 0) _ rfl K9 Try.underlying163 rfl (by kernel_rfl)) rfl ?_
  exact ⟨rfl, H9.out⟩
end Go.Proofs.Ytiimanoloedbeaa
