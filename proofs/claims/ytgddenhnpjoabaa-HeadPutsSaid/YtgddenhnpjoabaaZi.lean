/-
  Are two views the same, are two rows of names? Conditions: they read as they are said to.
-/
import Derived.Test.YtgddenhnpjoabaaZh
import Derived.Stop.BytesEq

namespace Go.Proofs.Ytgddenhnpjoabaa
open Go.RowKit Go.BigFrame
set_option linter.unusedSimpArgs false
set_option linter.unusedVariables false
set_option maxRecDepth 100000
def SameV (a b : VA) : Prop := a.size = b.size ∧ a.mk' = b.mk' ∧ a.lk = b.lk
def SameTo (w : World) (p : Prop) (e : Ending) (w' : World) : Prop := ∃ r, e = .returned (.bool r) ∧ (r = true ↔ p) ∧ Below w.heap.size w w'
set_option maxHeartbeats 4000000 in
theorem vsame_any (a b : VA) (w : World) (ha : a.R w) (hb : b.R w) : Calls Try.prog 59 #[.agg a.cs, .agg b.cs] w (SameTo w (SameV a b)) := by
  have B0 := Lib.hid ((below_alloc w (.cells a.cs 82)).alloc (by simp) (.cells b.cs 82))
  have h1 := ha.row.since B0.out
  have h2 := hb.row.since B0.out
  have HE := Lib.hid (equal_any a.M b.M _ _ a.cm b.cm _ _ a.row b.row _ h1 h2)
  have hlk := run_link_eql (strOf a.par) (strOf b.par) a.ps a.ov b.ps b.ov
  obtain ⟨r5, hr5⟩ : ∃ r, r = (((strOf a.par).toList == (strOf b.par).toList) && decide (a.ps = b.ps) && decide (a.ov = b.ov)) := ⟨_, rfl⟩
  have H5 : Hid (r5 = true ↔ a.lk = b.lk) := Lib.hid (by
    rw [hr5, str_eq ha.par hb.par]
    unfold VA.lk
    simp only [Bool.and_eq_true, decide_eq_true_eq, LkV.mk.injEq, and_assoc])
  simp only [← hr5] at hlk
  clear hr5 h1 h2 ha hb
  unfold VA.cs at *
  by_cases c1 : a.size = b.size
  · have d1 : (a.size == b.size) = true := by simpa using c1
    by_cases c2 : a.on = b.on
    · have d2 : (a.on == b.on) = true := by simpa using c2
      by_cases c3 : a.good = b.good
      · have d3 : (a.good == b.good) = true := by simpa using c3
        have C := Lib.hid (And.intro c1 (And.intro c2 c3))
        clear c1 c2 c3
        go_enter Try.func59, Try.ntmps59
        go_wp2_with fail
        refine HE.out.mono ?_
        rintro e w1 ⟨rfl, rfl⟩
        by_cases c4 : a.row = b.row
        · have d4 : (a.row == b.row) = true := by simpa using c4
          replace c4 := Lib.hid c4
          rw [d4]
          cases r5 with
          | true =>
            go_wp2
            go_ret
            exact ⟨true, rfl, ⟨fun _ => ⟨C.out.1, by unfold VA.mk'; rw [C.out.2.1, C.out.2.2, c4.out], H5.out.1 (by trivial)⟩, fun _ => rfl⟩, B0.out⟩
          | false =>
            go_wp2
            go_ret
            exact ⟨false, rfl, ⟨fun h => (by cases h), fun h => (by have := H5.out.2 h.2.2; first | exact this | exact this.elim | cases this)⟩, B0.out⟩
        · have d4 : (a.row == b.row) = false := by simpa using c4
          replace c4 := Lib.hid c4
          rw [d4]
          go_wp2
          go_ret
          exact ⟨false, rfl, ⟨fun h => (by cases h), fun h => absurd (congrArg MkV.row h.2.1) c4.out⟩, B0.out⟩
      · have d3 : (a.good == b.good) = false := by simpa using c3
        replace c3 := Lib.hid c3
        clear c1 c2
        go_enter Try.func59, Try.ntmps59
        go_wp2
        go_ret
        exact ⟨false, rfl, ⟨fun h => (by cases h), fun h => absurd (congrArg MkV.good h.2.1) c3.out⟩, B0.out⟩
    · have d2 : (a.on == b.on) = false := by simpa using c2
      replace c2 := Lib.hid c2
      clear c1
      go_enter Try.func59, Try.ntmps59
      go_wp2
      go_ret
      exact ⟨false, rfl, ⟨fun h => (by cases h), fun h => absurd (congrArg MkV.on h.2.1) c2.out⟩, B0.out⟩
  · have d1 : (a.size == b.size) = false := by simpa using c1
    replace c1 := Lib.hid c1
    go_enter Try.func59, Try.ntmps59
    go_wp2
    go_ret
    exact ⟨false, rfl, ⟨fun h => (by cases h), fun h => absurd h.1 c1.out⟩, B0.out⟩
set_option maxHeartbeats 4000000 in
theorem eqstrs_any (A1 A2 : Option Addr) (c1 c2 : Nat) (l1 l2 : List (List Nat)) (w : World) (h1 : Strs w w.heap.size A1 l1.length l1) (h2 : Strs w w.heap.size A2 l2.length l2) (hl : l1.length ≤ 1000000) (hl2 : l2.length ≤ 1000000) :
    Calls Try.prog 103 #[.slice A1 l1.length c1, .slice A2 l2.length c2] w (SameTo w (l1 = l2)) := by
  by_cases hne : l1.length = l2.length
  · obtain ⟨n, hn⟩ : ∃ n, l1.length = n := ⟨_, rfl⟩
    rw [hn] at h1 hl ⊢
    rw [hn] at hne
    rw [← hne] at h2 ⊢
    have H1 := Lib.hid h1
    have H2 := Lib.hid h2
    have HN := Lib.hid (And.intro hn hne)
    clear h1 h2 hl2 hn hne
    go_enter Try.func103, Try.ntmps103
    go_wp2
    go_loopw [13] (fun i wr => ∃ k : Nat, k ≤ n ∧ i = .int .i64 k ∧ Below w.heap.size w wr ∧ ∀ j, j < k → l1[j]? = l2[j]?) (fun i _ => n - (intOf i).toNat)
    case atStart => exact ⟨0, by omega, rfl, Below.refl _ _, fun j h => by omega⟩
    case round =>
      obtain ⟨k, hk, rfl, hb, hall⟩ := hrel
      have HA := Lib.hid hall
      have HB := Lib.hid hb
      have hwk : IntKind.i64.wrap ((k : Int) + 1) = (k : Int) + 1 := by rw [IntKind.wrap_i64]; omega
      clear hall hb
      by_cases hlt : k < n
      · obtain ⟨ad, x, hA1, hx, hx2, hc⟩ := (H1.out.since HB.out).at_ hlt
        obtain ⟨ad', x', hA2, hx', hx2', hc'⟩ := (H2.out.since HB.out).at_ hlt
        have hk0 : (0 : Int) ≤ (k : Int) := by omega
        have hk1 : (k : Int) < (n : Int) := by omega
        have HX := Lib.hid (And.intro hx hx')
        have he := str_eq hx2 hx2'
        subst hA1 hA2
        clear hx hx' hx2 hx2'
        go_wp2_with fail
        by_cases hxx : x = x'
        · have hd : ((strOf x).toList == (strOf x').toList) = true := by rw [he]; exact decide_eq_true hxx
          clear he
          go_quiet (fail)
          go_wp2
          exact ⟨⟨k + 1, by omega, by go_num, below_drewN HB.out _, fun j hj => by
            rcases Nat.lt_succ_iff_lt_or_eq.1 hj with h | rfl
            · exact HA.out j h
            · rw [HX.out.1, HX.out.2, hxx]⟩, by simp only [intOf]; omega⟩
        · have hd : ((strOf x).toList == (strOf x').toList) = false := by rw [he]; exact decide_eq_false hxx
          clear he
          go_quiet (fail)
          go_wp2
          go_ret
          exact ⟨false, rfl, ⟨fun h => (by cases h), fun h => absurd (by rw [h] at HX; have := HX.out; rw [this.1] at this; exact Option.some.inj this.2) hxx⟩, below_drewN HB.out _⟩
      · obtain rfl : k = n := by omega
        go_wp2
        go_ret
        exact ⟨true, rfl, ⟨fun _ => List.ext_getElem? fun j => by
          by_cases hj : j < k
          · exact HA.out j hj
          · rw [List.getElem?_eq_none (by have := HN.out.1; omega), List.getElem?_eq_none (by have := HN.out.2; omega)], fun _ => rfl⟩, HB.out⟩
  · have hd : ((l1.length : Int) == (l2.length : Int)) = false := by rw [beq_eq_false_iff_ne]; omega
    have HN := Lib.hid hne
    clear hne
    go_enter Try.func103, Try.ntmps103
    go_wp2
    go_ret
    exact ⟨false, rfl, ⟨fun h => (by cases h), fun h => absurd (congrArg List.length h) HN.out⟩, Below.refl _ _⟩
end Go.Proofs.Ytgddenhnpjoabaa

/-
  Are two snapshots the same, are two heads? Conditions: they read as they are said to.
-/
namespace Go.Proofs.Ytgddenhnpjoabaa
open Go.RowKit Go.BigFrame
set_option linter.unusedSimpArgs false
set_option linter.unusedVariables false
set_option maxRecDepth 100000
theorem sv_iff (s t : SA) : s.v = t.v ↔ s.num = t.num ∧ s.name = t.name ∧ s.prot = t.prot ∧ SameV s.vw t.vw ∧ s.ch = t.ch := by
  unfold SA.v SameV
  rw [SnV.mk.injEq]
  constructor
  · rintro ⟨a, b, c, d, e, f, g⟩; exact ⟨a, c, d, ⟨b, e, f⟩, g⟩
  · rintro ⟨a, c, d, ⟨b, e, f⟩, g⟩; exact ⟨a, b, c, d, e, f, g⟩
theorem sv_yes {s t : SA} (a : s.num = t.num) (b : s.name = t.name) (c : s.prot = t.prot) (d : SameV s.vw t.vw) (e : s.ch = t.ch) : s.v = t.v := (sv_iff s t).2 ⟨a, b, c, d, e⟩
theorem sv_no {s t : SA} (h : s.num ≠ t.num ∨ s.name ≠ t.name ∨ s.prot ≠ t.prot ∨ ¬ SameV s.vw t.vw ∨ s.ch ≠ t.ch) : (false = true ↔ s.v = t.v) := by
  refine ⟨fun h => (by cases h), fun e => ?_⟩
  obtain ⟨a, b, c, d, f⟩ := (sv_iff s t).1 e
  rcases h with h | h | h | h | h
  · exact absurd a h
  · exact absurd b h
  · exact absurd c h
  · exact absurd d h
  · exact absurd f h
theorem b_iff {p : Prop} [Decidable p] {r : Bool} (h : decide p = r) : r = true ↔ p := by subst h; simp
set_option maxHeartbeats 16000000 in
theorem samesnap_any (s t : SA) (w : World) (hs : s.R w) (ht : t.R w) (hl1 : s.ch.length ≤ 1000000) (hl2 : t.ch.length ≤ 1000000) : Calls Try.prog 61 #[.agg s.cells.toArray, .agg t.cells.toArray] w (SameTo w (s.v = t.v)) := by
  obtain ⟨w8, hw8⟩ : ∃ w8, w8 = (w.alloc (.cells s.cells.toArray 66)).alloc (.cells t.cells.toArray 66) := ⟨_, rfl⟩
  have hb8 : Below w.heap.size w w8 := by rw [hw8]; exact (below_alloc w _).alloc (by simp) _
  have HB8 := Lib.hid hb8
  have HB1 : Hid (∀ W, Below w8.heap.size w8 W → Blk W w.heap.size 66 #[.int .i64 s.num, .int .i64 s.vw.size, .string (strOf s.name), .bool s.vw.on, .bool s.vw.good, .bool s.prot, .slice s.vw.M s.vw.row.length s.vw.cm, .string (strOf s.vw.par), .int .i64 s.vw.ps, .int .i64 s.vw.ov, .slice s.C s.ch.length s.cc]) := Lib.hid fun W hW => by
    have k8 : Blk w8 w.heap.size 66 s.cells.toArray := by rw [hw8]; exact (Blk.new w _ _).alloc _
    exact k8.of (hW.block _ k8.lt)
  have HB2 : Hid (∀ W, Below w8.heap.size w8 W → Blk W (w.heap.size + 1) 66 #[.int .i64 t.num, .int .i64 t.vw.size, .string (strOf t.name), .bool t.vw.on, .bool t.vw.good, .bool t.prot, .slice t.vw.M t.vw.row.length t.vw.cm, .string (strOf t.vw.par), .int .i64 t.vw.ps, .int .i64 t.vw.ov, .slice t.C t.ch.length t.cc]) := Lib.hid fun W hW => by
    have k8 : Blk w8 (w.heap.size + 1) 66 t.cells.toArray := by rw [hw8]; exact blk_two w _ _ _
    exact k8.of (hW.block _ k8.lt)
  have HV1 : Hid (∀ W, Below w8.heap.size w8 W → Calls Try.prog 87 #[.agg #[.int .i64 s.num, .int .i64 s.vw.size, .string (strOf s.name), .bool s.vw.on, .bool s.vw.good, .bool s.prot, .slice s.vw.M s.vw.row.length s.vw.cm, .string (strOf s.vw.par), .int .i64 s.vw.ps, .int .i64 s.vw.ov, .slice s.C s.ch.length s.cc]] W fun e w' => e = .returned (.agg s.vw.cs) ∧ Below W.heap.size W w') := Lib.hid fun W hW => sview_any s W
  have HV2 : Hid (∀ W, Below w8.heap.size w8 W → Calls Try.prog 87 #[.agg #[.int .i64 t.num, .int .i64 t.vw.size, .string (strOf t.name), .bool t.vw.on, .bool t.vw.good, .bool t.prot, .slice t.vw.M t.vw.row.length t.vw.cm, .string (strOf t.vw.par), .int .i64 t.vw.ps, .int .i64 t.vw.ov, .slice t.C t.ch.length t.cc]] W fun e w' => e = .returned (.agg t.vw.cs) ∧ Below W.heap.size W w') := Lib.hid fun W hW => sview_any t W
  have HVS : Hid (∀ W, Below w8.heap.size w8 W → Calls Try.prog 59 #[.agg s.vw.cs, .agg t.vw.cs] W (SameTo W (SameV s.vw t.vw))) := Lib.hid fun W hW => vsame_any s.vw t.vw W ((hs.vw.since hb8).since hW) ((ht.vw.since hb8).since hW)
  have HCS : Hid (∀ W, Below w8.heap.size w8 W → Calls Try.prog 103 #[.slice s.C s.ch.length s.cc, .slice t.C t.ch.length t.cc] W (SameTo W (s.ch = t.ch))) := Lib.hid fun W hW => eqstrs_any s.C t.C s.cc t.cc s.ch t.ch W ((hs.since hb8).since hW).ch ((ht.since hb8).since hW).ch hl1 hl2
  obtain ⟨r1, q1⟩ : ∃ r, (s.num == t.num) = r := ⟨_, rfl⟩
  obtain ⟨r2, q2⟩ : ∃ r, ((strOf s.name).toList == (strOf t.name).toList) = r := ⟨_, rfl⟩
  obtain ⟨r3, q3⟩ : ∃ r, (s.prot == t.prot) = r := ⟨_, rfl⟩
  have H1 : Hid (r1 = true ↔ s.num = t.num) := Lib.hid (by rw [← q1]; simp)
  have H2 : Hid (r2 = true ↔ s.name = t.name) := Lib.hid (by rw [← q2, str_eq hs.name ht.name]; simp)
  have H3 : Hid (r3 = true ↔ s.prot = t.prot) := Lib.hid (by rw [← q3]; simp)
  have HW8 := Lib.hid hw8
  clear hs ht hb8 hw8
  unfold SA.cells at *
  go_enter Try.func61, Try.ntmps61
  go_upto_region 1 with (fail)
  rw [← HW8.out]
  clear HW8
  have hS : Below w8.heap.size w8 w8.drew := (Below.refl _ w8).drew
  refine any_beginL (fun W => Below w8.heap.size w8 W) 99 (by kernel_rfl) ?_
  refine S_take (i := 0) (v := .pointer (some ⟨w.heap.size, 0, none⟩)) rfl rfl (by kernel_rfl) (by kernel_rfl) (by kernel_rfl) (fun _ _ _ h => h) (Or.inl ⟨by rfl, fun W hw => by go_simp⟩) hS ?_
  simp only [Act.put, List.getElem_toArray, List.getElem_cons_succ, List.getElem_cons_zero, List.setIfInBounds_toArray, List.set_cons_zero, List.set_cons_succ]
  refine S_take (i := 1) (v := .int .i64 s.num) rfl rfl (by kernel_rfl) (by kernel_rfl) (by kernel_rfl) (fun _ _ _ h => h) (Or.inl ⟨by rfl, fun W hw => by have k0 : W.cell? ⟨w.heap.size, 0, none⟩ = some (.int .i64 s.num) := (HB1.out W hw).cell 0; go_simp⟩) hS ?_
  simp only [Act.put, List.getElem_toArray, List.getElem_cons_succ, List.getElem_cons_zero, List.setIfInBounds_toArray, List.set_cons_zero, List.set_cons_succ]
  refine S_take (i := 2) (v := .pointer (some ⟨(w.heap.size + 1), 0, none⟩)) rfl rfl (by kernel_rfl) (by kernel_rfl) (by kernel_rfl) (fun _ _ _ h => h) (Or.inl ⟨by rfl, fun W hw => by go_simp⟩) hS ?_
  simp only [Act.put, List.getElem_toArray, List.getElem_cons_succ, List.getElem_cons_zero, List.setIfInBounds_toArray, List.set_cons_zero, List.set_cons_succ]
  refine S_take (i := 3) (v := .int .i64 t.num) rfl rfl (by kernel_rfl) (by kernel_rfl) (by kernel_rfl) (fun _ _ _ h => h) (Or.inl ⟨by rfl, fun W hw => by have k0 : W.cell? ⟨(w.heap.size + 1), 0, none⟩ = some (.int .i64 t.num) := (HB2.out W hw).cell 0; go_simp⟩) hS ?_
  simp only [Act.put, List.getElem_toArray, List.getElem_cons_succ, List.getElem_cons_zero, List.setIfInBounds_toArray, List.set_cons_zero, List.set_cons_succ]
  refine S_take (i := 4) (v := .bool r1) rfl rfl (by kernel_rfl) (by kernel_rfl) (by kernel_rfl) (fun _ _ _ h => h) (Or.inl ⟨by rfl, fun W hw => by go_simp⟩) hS ?_
  simp only [Act.put, List.getElem_toArray, List.getElem_cons_succ, List.getElem_cons_zero, List.setIfInBounds_toArray, List.set_cons_zero, List.set_cons_succ]
  cases r1 with
  | true =>
    refine S_take (i := 5) (v := .bool true) rfl rfl (by kernel_rfl) (by kernel_rfl) (by kernel_rfl) (fun _ _ _ h => h) (Or.inl ⟨by rfl, fun W hw => by go_simp⟩) hS ?_
    simp only [Act.put, List.getElem_toArray, List.getElem_cons_succ, List.getElem_cons_zero, List.setIfInBounds_toArray, List.set_cons_zero, List.set_cons_succ]
    refine S_take (i := 6) (v := .pointer (some ⟨w.heap.size, 2, none⟩)) rfl rfl (by kernel_rfl) (by kernel_rfl) (by kernel_rfl) (fun _ _ _ h => h) (Or.inl ⟨by rfl, fun W hw => by go_simp⟩) hS ?_
    simp only [Act.put, List.getElem_toArray, List.getElem_cons_succ, List.getElem_cons_zero, List.setIfInBounds_toArray, List.set_cons_zero, List.set_cons_succ]
    refine S_take (i := 7) (v := .string (strOf s.name)) rfl rfl (by kernel_rfl) (by kernel_rfl) (by kernel_rfl) (fun _ _ _ h => h) (Or.inl ⟨by rfl, fun W hw => by have k0 : W.cell? ⟨w.heap.size, 2, none⟩ = some (.string (strOf s.name)) := (HB1.out W hw).cell 2; go_simp⟩) hS ?_
    simp only [Act.put, List.getElem_toArray, List.getElem_cons_succ, List.getElem_cons_zero, List.setIfInBounds_toArray, List.set_cons_zero, List.set_cons_succ]
    refine S_take (i := 8) (v := .pointer (some ⟨(w.heap.size + 1), 2, none⟩)) rfl rfl (by kernel_rfl) (by kernel_rfl) (by kernel_rfl) (fun _ _ _ h => h) (Or.inl ⟨by rfl, fun W hw => by go_simp⟩) hS ?_
    simp only [Act.put, List.getElem_toArray, List.getElem_cons_succ, List.getElem_cons_zero, List.setIfInBounds_toArray, List.set_cons_zero, List.set_cons_succ]
    refine S_take (i := 9) (v := .string (strOf t.name)) rfl rfl (by kernel_rfl) (by kernel_rfl) (by kernel_rfl) (fun _ _ _ h => h) (Or.inl ⟨by rfl, fun W hw => by have k0 : W.cell? ⟨(w.heap.size + 1), 2, none⟩ = some (.string (strOf t.name)) := (HB2.out W hw).cell 2; go_simp⟩) hS ?_
    simp only [Act.put, List.getElem_toArray, List.getElem_cons_succ, List.getElem_cons_zero, List.setIfInBounds_toArray, List.set_cons_zero, List.set_cons_succ]
    refine S_take (i := 10) (v := .bool r2) rfl rfl (by kernel_rfl) (by kernel_rfl) (by kernel_rfl) (fun _ _ _ h => h) (Or.inl ⟨by rfl, fun W hw => by go_simp⟩) hS ?_
    simp only [Act.put, List.getElem_toArray, List.getElem_cons_succ, List.getElem_cons_zero, List.setIfInBounds_toArray, List.set_cons_zero, List.set_cons_succ]
    cases r2 with
    | true =>
      refine S_take (i := 11) (v := .bool true) rfl rfl (by kernel_rfl) (by kernel_rfl) (by kernel_rfl) (fun _ _ _ h => h) (Or.inl ⟨by rfl, fun W hw => by go_simp⟩) hS ?_
      simp only [Act.put, List.getElem_toArray, List.getElem_cons_succ, List.getElem_cons_zero, List.setIfInBounds_toArray, List.set_cons_zero, List.set_cons_succ]
      refine S_take (i := 12) (v := .bool true) rfl rfl (by kernel_rfl) (by kernel_rfl) (by kernel_rfl) (fun _ _ _ h => h) (Or.inl ⟨by rfl, fun W hw => by go_simp⟩) hS ?_
      simp only [Act.put, List.getElem_toArray, List.getElem_cons_succ, List.getElem_cons_zero, List.setIfInBounds_toArray, List.set_cons_zero, List.set_cons_succ]
      refine S_take (i := 13) (v := .pointer (some ⟨w.heap.size, 5, none⟩)) rfl rfl (by kernel_rfl) (by kernel_rfl) (by kernel_rfl) (fun _ _ _ h => h) (Or.inl ⟨by rfl, fun W hw => by go_simp⟩) hS ?_
      simp only [Act.put, List.getElem_toArray, List.getElem_cons_succ, List.getElem_cons_zero, List.setIfInBounds_toArray, List.set_cons_zero, List.set_cons_succ]
      refine S_take (i := 14) (v := .bool s.prot) rfl rfl (by kernel_rfl) (by kernel_rfl) (by kernel_rfl) (fun _ _ _ h => h) (Or.inl ⟨by rfl, fun W hw => by have k0 : W.cell? ⟨w.heap.size, 5, none⟩ = some (.bool s.prot) := (HB1.out W hw).cell 5; go_simp⟩) hS ?_
      simp only [Act.put, List.getElem_toArray, List.getElem_cons_succ, List.getElem_cons_zero, List.setIfInBounds_toArray, List.set_cons_zero, List.set_cons_succ]
      refine S_take (i := 15) (v := .pointer (some ⟨(w.heap.size + 1), 5, none⟩)) rfl rfl (by kernel_rfl) (by kernel_rfl) (by kernel_rfl) (fun _ _ _ h => h) (Or.inl ⟨by rfl, fun W hw => by go_simp⟩) hS ?_
      simp only [Act.put, List.getElem_toArray, List.getElem_cons_succ, List.getElem_cons_zero, List.setIfInBounds_toArray, List.set_cons_zero, List.set_cons_succ]
      refine S_take (i := 16) (v := .bool t.prot) rfl rfl (by kernel_rfl) (by kernel_rfl) (by kernel_rfl) (fun _ _ _ h => h) (Or.inl ⟨by rfl, fun W hw => by have k0 : W.cell? ⟨(w.heap.size + 1), 5, none⟩ = some (.bool t.prot) := (HB2.out W hw).cell 5; go_simp⟩) hS ?_
      simp only [Act.put, List.getElem_toArray, List.getElem_cons_succ, List.getElem_cons_zero, List.setIfInBounds_toArray, List.set_cons_zero, List.set_cons_succ]
      refine S_take (i := 17) (v := .bool r3) rfl rfl (by kernel_rfl) (by kernel_rfl) (by kernel_rfl) (fun _ _ _ h => h) (Or.inl ⟨by rfl, fun W hw => by go_simp⟩) hS ?_
      simp only [Act.put, List.getElem_toArray, List.getElem_cons_succ, List.getElem_cons_zero, List.setIfInBounds_toArray, List.set_cons_zero, List.set_cons_succ]
      cases r3 with
      | true =>
        refine S_take (i := 18) (v := .bool true) rfl rfl (by kernel_rfl) (by kernel_rfl) (by kernel_rfl) (fun _ _ _ h => h) (Or.inl ⟨by rfl, fun W hw => by go_simp⟩) hS ?_
        simp only [Act.put, List.getElem_toArray, List.getElem_cons_succ, List.getElem_cons_zero, List.setIfInBounds_toArray, List.set_cons_zero, List.set_cons_succ]
        refine S_take (i := 19) (v := .bool true) rfl rfl (by kernel_rfl) (by kernel_rfl) (by kernel_rfl) (fun _ _ _ h => h) (Or.inl ⟨by rfl, fun W hw => by go_simp⟩) hS ?_
        simp only [Act.put, List.getElem_toArray, List.getElem_cons_succ, List.getElem_cons_zero, List.setIfInBounds_toArray, List.set_cons_zero, List.set_cons_succ]
        refine S_take (i := 20) (v := .agg #[.int .i64 s.num, .int .i64 s.vw.size, .string (strOf s.name), .bool s.vw.on, .bool s.vw.good, .bool s.prot, .slice s.vw.M s.vw.row.length s.vw.cm, .string (strOf s.vw.par), .int .i64 s.vw.ps, .int .i64 s.vw.ov, .slice s.C s.ch.length s.cc]) rfl rfl (by kernel_rfl) (by kernel_rfl) (by kernel_rfl) (fun _ _ _ h => h) (Or.inl ⟨by rfl, fun W hw => by have k0 : W.cell? ⟨w.heap.size, 0, none⟩ = some (.int .i64 s.num) := (HB1.out W hw).cell 0; have k1 : W.cell? ⟨w.heap.size, 1, none⟩ = some (.int .i64 s.vw.size) := (HB1.out W hw).cell 1; have k2 : W.cell? ⟨w.heap.size, 2, none⟩ = some (.string (strOf s.name)) := (HB1.out W hw).cell 2; have k3 : W.cell? ⟨w.heap.size, 3, none⟩ = some (.bool s.vw.on) := (HB1.out W hw).cell 3; have k4 : W.cell? ⟨w.heap.size, 4, none⟩ = some (.bool s.vw.good) := (HB1.out W hw).cell 4; have k5 : W.cell? ⟨w.heap.size, 5, none⟩ = some (.bool s.prot) := (HB1.out W hw).cell 5; have k6 : W.cell? ⟨w.heap.size, 6, none⟩ = some (.slice s.vw.M s.vw.row.length s.vw.cm) := (HB1.out W hw).cell 6; have k7 : W.cell? ⟨w.heap.size, 7, none⟩ = some (.string (strOf s.vw.par)) := (HB1.out W hw).cell 7; have k8 : W.cell? ⟨w.heap.size, 8, none⟩ = some (.int .i64 s.vw.ps) := (HB1.out W hw).cell 8; have k9 : W.cell? ⟨w.heap.size, 9, none⟩ = some (.int .i64 s.vw.ov) := (HB1.out W hw).cell 9; have k10 : W.cell? ⟨w.heap.size, 10, none⟩ = some (.slice s.C s.ch.length s.cc) := (HB1.out W hw).cell 10; go_simp⟩) hS ?_
        simp only [Act.put, List.getElem_toArray, List.getElem_cons_succ, List.getElem_cons_zero, List.setIfInBounds_toArray, List.set_cons_zero, List.set_cons_succ]
        refine S_take (i := 22) (v := .agg #[.int .i64 t.num, .int .i64 t.vw.size, .string (strOf t.name), .bool t.vw.on, .bool t.vw.good, .bool t.prot, .slice t.vw.M t.vw.row.length t.vw.cm, .string (strOf t.vw.par), .int .i64 t.vw.ps, .int .i64 t.vw.ov, .slice t.C t.ch.length t.cc]) rfl rfl (by kernel_rfl) (by kernel_rfl) (by kernel_rfl) (fun _ _ _ h => h) (Or.inl ⟨by rfl, fun W hw => by have k0 : W.cell? ⟨(w.heap.size + 1), 0, none⟩ = some (.int .i64 t.num) := (HB2.out W hw).cell 0; have k1 : W.cell? ⟨(w.heap.size + 1), 1, none⟩ = some (.int .i64 t.vw.size) := (HB2.out W hw).cell 1; have k2 : W.cell? ⟨(w.heap.size + 1), 2, none⟩ = some (.string (strOf t.name)) := (HB2.out W hw).cell 2; have k3 : W.cell? ⟨(w.heap.size + 1), 3, none⟩ = some (.bool t.vw.on) := (HB2.out W hw).cell 3; have k4 : W.cell? ⟨(w.heap.size + 1), 4, none⟩ = some (.bool t.vw.good) := (HB2.out W hw).cell 4; have k5 : W.cell? ⟨(w.heap.size + 1), 5, none⟩ = some (.bool t.prot) := (HB2.out W hw).cell 5; have k6 : W.cell? ⟨(w.heap.size + 1), 6, none⟩ = some (.slice t.vw.M t.vw.row.length t.vw.cm) := (HB2.out W hw).cell 6; have k7 : W.cell? ⟨(w.heap.size + 1), 7, none⟩ = some (.string (strOf t.vw.par)) := (HB2.out W hw).cell 7; have k8 : W.cell? ⟨(w.heap.size + 1), 8, none⟩ = some (.int .i64 t.vw.ps) := (HB2.out W hw).cell 8; have k9 : W.cell? ⟨(w.heap.size + 1), 9, none⟩ = some (.int .i64 t.vw.ov) := (HB2.out W hw).cell 9; have k10 : W.cell? ⟨(w.heap.size + 1), 10, none⟩ = some (.slice t.C t.ch.length t.cc) := (HB2.out W hw).cell 10; go_simp⟩) hS ?_
        simp only [Act.put, List.getElem_toArray, List.getElem_cons_succ, List.getElem_cons_zero, List.setIfInBounds_toArray, List.set_cons_zero, List.set_cons_succ]
        refine L_one (j := 21) (by kernel_rfl) rfl (by rfl) ?_
        simp only [Act.put, List.getElem_toArray, List.getElem_cons_succ, List.getElem_cons_zero, List.setIfInBounds_toArray, List.set_cons_zero, List.set_cons_succ]
        refine wp_called (by go_simp) (HV1.out _ hS) ?_
        rintro e W21 ⟨rfl, b⟩
        have hS : Below w8.heap.size w8 W21 := hS.trans (b.mono hS.size)
        clear b
        refine ⟨_, rfl, hS, ?_⟩
        simp only [Act.put, List.getElem_toArray, List.getElem_cons_succ, List.getElem_cons_zero, List.setIfInBounds_toArray, List.set_cons_zero, List.set_cons_succ]
        refine L_one (j := 23) (by kernel_rfl) rfl (by rfl) ?_
        simp only [Act.put, List.getElem_toArray, List.getElem_cons_succ, List.getElem_cons_zero, List.setIfInBounds_toArray, List.set_cons_zero, List.set_cons_succ]
        refine wp_called (by go_simp) (HV2.out _ hS) ?_
        rintro e W23 ⟨rfl, b⟩
        have hS : Below w8.heap.size w8 W23 := hS.trans (b.mono hS.size)
        clear b
        refine ⟨_, rfl, hS, ?_⟩
        simp only [Act.put, List.getElem_toArray, List.getElem_cons_succ, List.getElem_cons_zero, List.setIfInBounds_toArray, List.set_cons_zero, List.set_cons_succ]
        refine L_one (j := 24) (by kernel_rfl) rfl (by rfl) ?_
        simp only [Act.put, List.getElem_toArray, List.getElem_cons_succ, List.getElem_cons_zero, List.setIfInBounds_toArray, List.set_cons_zero, List.set_cons_succ]
        refine wp_called (by go_simp) (HVS.out _ hS) ?_
        rintro e W24 ⟨r4, rfl, h4, b⟩
        have hS : Below w8.heap.size w8 W24 := hS.trans (b.mono hS.size)
        clear b
        have H4 := Lib.hid h4
        clear h4
        refine ⟨_, rfl, hS, ?_⟩
        simp only [Act.put, List.getElem_toArray, List.getElem_cons_succ, List.getElem_cons_zero, List.setIfInBounds_toArray, List.set_cons_zero, List.set_cons_succ]
        cases r4 with
        | true =>
          refine S_take (i := 25) (v := .bool true) rfl rfl (by kernel_rfl) (by kernel_rfl) (by kernel_rfl) (fun _ _ _ h => h) (Or.inl ⟨by rfl, fun W hw => by go_simp⟩) hS ?_
          simp only [Act.put, List.getElem_toArray, List.getElem_cons_succ, List.getElem_cons_zero, List.setIfInBounds_toArray, List.set_cons_zero, List.set_cons_succ]
          refine S_take (i := 26) (v := .bool true) rfl rfl (by kernel_rfl) (by kernel_rfl) (by kernel_rfl) (fun _ _ _ h => h) (Or.inl ⟨by rfl, fun W hw => by go_simp⟩) hS ?_
          simp only [Act.put, List.getElem_toArray, List.getElem_cons_succ, List.getElem_cons_zero, List.setIfInBounds_toArray, List.set_cons_zero, List.set_cons_succ]
          refine S_take (i := 27) (v := .pointer (some ⟨w.heap.size, 10, none⟩)) rfl rfl (by kernel_rfl) (by kernel_rfl) (by kernel_rfl) (fun _ _ _ h => h) (Or.inl ⟨by rfl, fun W hw => by go_simp⟩) hS ?_
          simp only [Act.put, List.getElem_toArray, List.getElem_cons_succ, List.getElem_cons_zero, List.setIfInBounds_toArray, List.set_cons_zero, List.set_cons_succ]
          refine S_take (i := 28) (v := .slice s.C s.ch.length s.cc) rfl rfl (by kernel_rfl) (by kernel_rfl) (by kernel_rfl) (fun _ _ _ h => h) (Or.inl ⟨by rfl, fun W hw => by have k0 : W.cell? ⟨w.heap.size, 10, none⟩ = some (.slice s.C s.ch.length s.cc) := (HB1.out W hw).cell 10; go_simp⟩) hS ?_
          simp only [Act.put, List.getElem_toArray, List.getElem_cons_succ, List.getElem_cons_zero, List.setIfInBounds_toArray, List.set_cons_zero, List.set_cons_succ]
          refine S_take (i := 29) (v := .pointer (some ⟨(w.heap.size + 1), 10, none⟩)) rfl rfl (by kernel_rfl) (by kernel_rfl) (by kernel_rfl) (fun _ _ _ h => h) (Or.inl ⟨by rfl, fun W hw => by go_simp⟩) hS ?_
          simp only [Act.put, List.getElem_toArray, List.getElem_cons_succ, List.getElem_cons_zero, List.setIfInBounds_toArray, List.set_cons_zero, List.set_cons_succ]
          refine S_take (i := 30) (v := .slice t.C t.ch.length t.cc) rfl rfl (by kernel_rfl) (by kernel_rfl) (by kernel_rfl) (fun _ _ _ h => h) (Or.inl ⟨by rfl, fun W hw => by have k0 : W.cell? ⟨(w.heap.size + 1), 10, none⟩ = some (.slice t.C t.ch.length t.cc) := (HB2.out W hw).cell 10; go_simp⟩) hS ?_
          simp only [Act.put, List.getElem_toArray, List.getElem_cons_succ, List.getElem_cons_zero, List.setIfInBounds_toArray, List.set_cons_zero, List.set_cons_succ]
          refine L_one (j := 31) (by kernel_rfl) rfl (by rfl) ?_
          simp only [Act.put, List.getElem_toArray, List.getElem_cons_succ, List.getElem_cons_zero, List.setIfInBounds_toArray, List.set_cons_zero, List.set_cons_succ]
          refine wp_called (by go_simp) (HCS.out _ hS) ?_
          rintro e W31 ⟨r5, rfl, h5, b⟩
          have hS : Below w8.heap.size w8 W31 := hS.trans (b.mono hS.size)
          clear b
          have H5 := Lib.hid h5
          clear h5
          refine ⟨_, rfl, hS, ?_⟩
          simp only [Act.put, List.getElem_toArray, List.getElem_cons_succ, List.getElem_cons_zero, List.setIfInBounds_toArray, List.set_cons_zero, List.set_cons_succ]
          cases r5 with
          | true =>
            refine S_take (i := 32) (v := .bool true) rfl rfl (by kernel_rfl) (by kernel_rfl) (by kernel_rfl) (fun _ _ _ h => h) (Or.inl ⟨by rfl, fun W hw => by go_simp⟩) hS ?_
            simp only [Act.put, List.getElem_toArray, List.getElem_cons_succ, List.getElem_cons_zero, List.setIfInBounds_toArray, List.set_cons_zero, List.set_cons_succ]
            refine S_take (i := 33) (v := .bool true) rfl rfl (by kernel_rfl) (by kernel_rfl) (by kernel_rfl) (fun _ _ _ h => h) (Or.inl ⟨by rfl, fun W hw => by go_simp⟩) hS ?_
            simp only [Act.put, List.getElem_toArray, List.getElem_cons_succ, List.getElem_cons_zero, List.setIfInBounds_toArray, List.set_cons_zero, List.set_cons_succ]
            refine L_done (by kernel_rfl) ?_
            refine NoPanic.normal ?_
            have HS9 := Lib.hid hS
            clear hS
            go_wp2
            go_ret
            exact ⟨true, rfl, ⟨fun _ => sv_yes (H1.out.1 (by trivial)) (H2.out.1 (by trivial)) (H3.out.1 (by trivial)) (H4.out.1 (by trivial)) (H5.out.1 (by trivial)), fun _ => rfl⟩, HB8.out.trans (HS9.out.mono HB8.out.size)⟩
          | false =>
            refine S_take (i := 32) (v := .bool false) rfl rfl (by kernel_rfl) (by kernel_rfl) (by kernel_rfl) (fun _ _ _ h => h) (Or.inl ⟨by rfl, fun W hw => by go_simp⟩) hS ?_
            simp only [Act.put, List.getElem_toArray, List.getElem_cons_succ, List.getElem_cons_zero, List.setIfInBounds_toArray, List.set_cons_zero, List.set_cons_succ]
            refine S_take (i := 33) (v := .bool false) rfl rfl (by kernel_rfl) (by kernel_rfl) (by kernel_rfl) (fun _ _ _ h => h) (Or.inl ⟨by rfl, fun W hw => by go_simp⟩) hS ?_
            simp only [Act.put, List.getElem_toArray, List.getElem_cons_succ, List.getElem_cons_zero, List.setIfInBounds_toArray, List.set_cons_zero, List.set_cons_succ]
            refine L_done (by kernel_rfl) ?_
            refine NoPanic.normal ?_
            have HS9 := Lib.hid hS
            clear hS
            go_wp2
            go_ret
            exact ⟨false, rfl, sv_no (.inr (.inr (.inr (.inr (fun e => by have := H5.out.2 e; cases this))))), HB8.out.trans (HS9.out.mono HB8.out.size)⟩
        | false =>
          refine S_take (i := 25) (v := .bool false) rfl rfl (by kernel_rfl) (by kernel_rfl) (by kernel_rfl) (fun _ _ _ h => h) (Or.inl ⟨by rfl, fun W hw => by go_simp⟩) hS ?_
          simp only [Act.put, List.getElem_toArray, List.getElem_cons_succ, List.getElem_cons_zero, List.setIfInBounds_toArray, List.set_cons_zero, List.set_cons_succ]
          refine S_take (i := 26) (v := .bool false) rfl rfl (by kernel_rfl) (by kernel_rfl) (by kernel_rfl) (fun _ _ _ h => h) (Or.inl ⟨by rfl, fun W hw => by go_simp⟩) hS ?_
          simp only [Act.put, List.getElem_toArray, List.getElem_cons_succ, List.getElem_cons_zero, List.setIfInBounds_toArray, List.set_cons_zero, List.set_cons_succ]
          refine S_take (i := 27) (v := undef) rfl rfl (by kernel_rfl) (by kernel_rfl) (by kernel_rfl) (fun _ _ _ h => h) (Or.inr ⟨by rfl, rfl⟩) hS ?_
          simp only [Act.put, List.getElem_toArray, List.getElem_cons_succ, List.getElem_cons_zero, List.setIfInBounds_toArray, List.set_cons_zero, List.set_cons_succ]
          refine S_take (i := 28) (v := undef) rfl rfl (by kernel_rfl) (by kernel_rfl) (by kernel_rfl) (fun _ _ _ h => h) (Or.inr ⟨by rfl, rfl⟩) hS ?_
          simp only [Act.put, List.getElem_toArray, List.getElem_cons_succ, List.getElem_cons_zero, List.setIfInBounds_toArray, List.set_cons_zero, List.set_cons_succ]
          refine S_take (i := 29) (v := undef) rfl rfl (by kernel_rfl) (by kernel_rfl) (by kernel_rfl) (fun _ _ _ h => h) (Or.inr ⟨by rfl, rfl⟩) hS ?_
          simp only [Act.put, List.getElem_toArray, List.getElem_cons_succ, List.getElem_cons_zero, List.setIfInBounds_toArray, List.set_cons_zero, List.set_cons_succ]
          refine S_take (i := 30) (v := undef) rfl rfl (by kernel_rfl) (by kernel_rfl) (by kernel_rfl) (fun _ _ _ h => h) (Or.inr ⟨by rfl, rfl⟩) hS ?_
          simp only [Act.put, List.getElem_toArray, List.getElem_cons_succ, List.getElem_cons_zero, List.setIfInBounds_toArray, List.set_cons_zero, List.set_cons_succ]
          refine S_take (i := 31) (v := undef) rfl rfl (by kernel_rfl) (by kernel_rfl) (by kernel_rfl) (fun _ _ _ h => h) (Or.inr ⟨by rfl, rfl⟩) hS ?_
          simp only [Act.put, List.getElem_toArray, List.getElem_cons_succ, List.getElem_cons_zero, List.setIfInBounds_toArray, List.set_cons_zero, List.set_cons_succ]
          refine S_take (i := 32) (v := .bool false) rfl rfl (by kernel_rfl) (by kernel_rfl) (by kernel_rfl) (fun _ _ _ h => h) (Or.inl ⟨by rfl, fun W hw => by go_simp⟩) hS ?_
          simp only [Act.put, List.getElem_toArray, List.getElem_cons_succ, List.getElem_cons_zero, List.setIfInBounds_toArray, List.set_cons_zero, List.set_cons_succ]
          refine S_take (i := 33) (v := .bool false) rfl rfl (by kernel_rfl) (by kernel_rfl) (by kernel_rfl) (fun _ _ _ h => h) (Or.inl ⟨by rfl, fun W hw => by go_simp⟩) hS ?_
          simp only [Act.put, List.getElem_toArray, List.getElem_cons_succ, List.getElem_cons_zero, List.setIfInBounds_toArray, List.set_cons_zero, List.set_cons_succ]
          refine L_done (by kernel_rfl) ?_
          refine NoPanic.normal ?_
          have HS9 := Lib.hid hS
          clear hS
          go_wp2
          go_ret
          exact ⟨false, rfl, sv_no (.inr (.inr (.inr (.inl (fun e => by have := H4.out.2 e; cases this))))), HB8.out.trans (HS9.out.mono HB8.out.size)⟩
      | false =>
        refine S_take (i := 18) (v := .bool false) rfl rfl (by kernel_rfl) (by kernel_rfl) (by kernel_rfl) (fun _ _ _ h => h) (Or.inl ⟨by rfl, fun W hw => by go_simp⟩) hS ?_
        simp only [Act.put, List.getElem_toArray, List.getElem_cons_succ, List.getElem_cons_zero, List.setIfInBounds_toArray, List.set_cons_zero, List.set_cons_succ]
        refine S_take (i := 19) (v := .bool false) rfl rfl (by kernel_rfl) (by kernel_rfl) (by kernel_rfl) (fun _ _ _ h => h) (Or.inl ⟨by rfl, fun W hw => by go_simp⟩) hS ?_
        simp only [Act.put, List.getElem_toArray, List.getElem_cons_succ, List.getElem_cons_zero, List.setIfInBounds_toArray, List.set_cons_zero, List.set_cons_succ]
        refine S_take (i := 20) (v := undef) rfl rfl (by kernel_rfl) (by kernel_rfl) (by kernel_rfl) (fun _ _ _ h => h) (Or.inr ⟨by rfl, rfl⟩) hS ?_
        simp only [Act.put, List.getElem_toArray, List.getElem_cons_succ, List.getElem_cons_zero, List.setIfInBounds_toArray, List.set_cons_zero, List.set_cons_succ]
        refine S_take (i := 21) (v := undef) rfl rfl (by kernel_rfl) (by kernel_rfl) (by kernel_rfl) (fun _ _ _ h => h) (Or.inr ⟨by rfl, rfl⟩) hS ?_
        simp only [Act.put, List.getElem_toArray, List.getElem_cons_succ, List.getElem_cons_zero, List.setIfInBounds_toArray, List.set_cons_zero, List.set_cons_succ]
        refine S_take (i := 22) (v := undef) rfl rfl (by kernel_rfl) (by kernel_rfl) (by kernel_rfl) (fun _ _ _ h => h) (Or.inr ⟨by rfl, rfl⟩) hS ?_
        simp only [Act.put, List.getElem_toArray, List.getElem_cons_succ, List.getElem_cons_zero, List.setIfInBounds_toArray, List.set_cons_zero, List.set_cons_succ]
        refine S_take (i := 23) (v := undef) rfl rfl (by kernel_rfl) (by kernel_rfl) (by kernel_rfl) (fun _ _ _ h => h) (Or.inr ⟨by rfl, rfl⟩) hS ?_
        simp only [Act.put, List.getElem_toArray, List.getElem_cons_succ, List.getElem_cons_zero, List.setIfInBounds_toArray, List.set_cons_zero, List.set_cons_succ]
        refine S_take (i := 24) (v := undef) rfl rfl (by kernel_rfl) (by kernel_rfl) (by kernel_rfl) (fun _ _ _ h => h) (Or.inr ⟨by rfl, rfl⟩) hS ?_
        simp only [Act.put, List.getElem_toArray, List.getElem_cons_succ, List.getElem_cons_zero, List.setIfInBounds_toArray, List.set_cons_zero, List.set_cons_succ]
        refine S_take (i := 25) (v := .bool false) rfl rfl (by kernel_rfl) (by kernel_rfl) (by kernel_rfl) (fun _ _ _ h => h) (Or.inl ⟨by rfl, fun W hw => by go_simp⟩) hS ?_
        simp only [Act.put, List.getElem_toArray, List.getElem_cons_succ, List.getElem_cons_zero, List.setIfInBounds_toArray, List.set_cons_zero, List.set_cons_succ]
        refine S_take (i := 26) (v := .bool false) rfl rfl (by kernel_rfl) (by kernel_rfl) (by kernel_rfl) (fun _ _ _ h => h) (Or.inl ⟨by rfl, fun W hw => by go_simp⟩) hS ?_
        simp only [Act.put, List.getElem_toArray, List.getElem_cons_succ, List.getElem_cons_zero, List.setIfInBounds_toArray, List.set_cons_zero, List.set_cons_succ]
        refine S_take (i := 27) (v := undef) rfl rfl (by kernel_rfl) (by kernel_rfl) (by kernel_rfl) (fun _ _ _ h => h) (Or.inr ⟨by rfl, rfl⟩) hS ?_
        simp only [Act.put, List.getElem_toArray, List.getElem_cons_succ, List.getElem_cons_zero, List.setIfInBounds_toArray, List.set_cons_zero, List.set_cons_succ]
        refine S_take (i := 28) (v := undef) rfl rfl (by kernel_rfl) (by kernel_rfl) (by kernel_rfl) (fun _ _ _ h => h) (Or.inr ⟨by rfl, rfl⟩) hS ?_
        simp only [Act.put, List.getElem_toArray, List.getElem_cons_succ, List.getElem_cons_zero, List.setIfInBounds_toArray, List.set_cons_zero, List.set_cons_succ]
        refine S_take (i := 29) (v := undef) rfl rfl (by kernel_rfl) (by kernel_rfl) (by kernel_rfl) (fun _ _ _ h => h) (Or.inr ⟨by rfl, rfl⟩) hS ?_
        simp only [Act.put, List.getElem_toArray, List.getElem_cons_succ, List.getElem_cons_zero, List.setIfInBounds_toArray, List.set_cons_zero, List.set_cons_succ]
        refine S_take (i := 30) (v := undef) rfl rfl (by kernel_rfl) (by kernel_rfl) (by kernel_rfl) (fun _ _ _ h => h) (Or.inr ⟨by rfl, rfl⟩) hS ?_
        simp only [Act.put, List.getElem_toArray, List.getElem_cons_succ, List.getElem_cons_zero, List.setIfInBounds_toArray, List.set_cons_zero, List.set_cons_succ]
        refine S_take (i := 31) (v := undef) rfl rfl (by kernel_rfl) (by kernel_rfl) (by kernel_rfl) (fun _ _ _ h => h) (Or.inr ⟨by rfl, rfl⟩) hS ?_
        simp only [Act.put, List.getElem_toArray, List.getElem_cons_succ, List.getElem_cons_zero, List.setIfInBounds_toArray, List.set_cons_zero, List.set_cons_succ]
        refine S_take (i := 32) (v := .bool false) rfl rfl (by kernel_rfl) (by kernel_rfl) (by kernel_rfl) (fun _ _ _ h => h) (Or.inl ⟨by rfl, fun W hw => by go_simp⟩) hS ?_
        simp only [Act.put, List.getElem_toArray, List.getElem_cons_succ, List.getElem_cons_zero, List.setIfInBounds_toArray, List.set_cons_zero, List.set_cons_succ]
        refine S_take (i := 33) (v := .bool false) rfl rfl (by kernel_rfl) (by kernel_rfl) (by kernel_rfl) (fun _ _ _ h => h) (Or.inl ⟨by rfl, fun W hw => by go_simp⟩) hS ?_
        simp only [Act.put, List.getElem_toArray, List.getElem_cons_succ, List.getElem_cons_zero, List.setIfInBounds_toArray, List.set_cons_zero, List.set_cons_succ]
        refine L_done (by kernel_rfl) ?_
        refine NoPanic.normal ?_
        have HS9 := Lib.hid hS
        clear hS
        go_wp2
        go_ret
        exact ⟨false, rfl, sv_no (.inr (.inr (.inl (fun e => by have := H3.out.2 e; cases this)))), HB8.out.trans (HS9.out.mono HB8.out.size)⟩
    | false =>
      refine S_take (i := 11) (v := .bool false) rfl rfl (by kernel_rfl) (by kernel_rfl) (by kernel_rfl) (fun _ _ _ h => h) (Or.inl ⟨by rfl, fun W hw => by go_simp⟩) hS ?_
      simp only [Act.put, List.getElem_toArray, List.getElem_cons_succ, List.getElem_cons_zero, List.setIfInBounds_toArray, List.set_cons_zero, List.set_cons_succ]
      refine S_take (i := 12) (v := .bool false) rfl rfl (by kernel_rfl) (by kernel_rfl) (by kernel_rfl) (fun _ _ _ h => h) (Or.inl ⟨by rfl, fun W hw => by go_simp⟩) hS ?_
      simp only [Act.put, List.getElem_toArray, List.getElem_cons_succ, List.getElem_cons_zero, List.setIfInBounds_toArray, List.set_cons_zero, List.set_cons_succ]
      refine S_take (i := 13) (v := undef) rfl rfl (by kernel_rfl) (by kernel_rfl) (by kernel_rfl) (fun _ _ _ h => h) (Or.inr ⟨by rfl, rfl⟩) hS ?_
      simp only [Act.put, List.getElem_toArray, List.getElem_cons_succ, List.getElem_cons_zero, List.setIfInBounds_toArray, List.set_cons_zero, List.set_cons_succ]
      refine S_take (i := 14) (v := undef) rfl rfl (by kernel_rfl) (by kernel_rfl) (by kernel_rfl) (fun _ _ _ h => h) (Or.inr ⟨by rfl, rfl⟩) hS ?_
      simp only [Act.put, List.getElem_toArray, List.getElem_cons_succ, List.getElem_cons_zero, List.setIfInBounds_toArray, List.set_cons_zero, List.set_cons_succ]
      refine S_take (i := 15) (v := undef) rfl rfl (by kernel_rfl) (by kernel_rfl) (by kernel_rfl) (fun _ _ _ h => h) (Or.inr ⟨by rfl, rfl⟩) hS ?_
      simp only [Act.put, List.getElem_toArray, List.getElem_cons_succ, List.getElem_cons_zero, List.setIfInBounds_toArray, List.set_cons_zero, List.set_cons_succ]
      refine S_take (i := 16) (v := undef) rfl rfl (by kernel_rfl) (by kernel_rfl) (by kernel_rfl) (fun _ _ _ h => h) (Or.inr ⟨by rfl, rfl⟩) hS ?_
      simp only [Act.put, List.getElem_toArray, List.getElem_cons_succ, List.getElem_cons_zero, List.setIfInBounds_toArray, List.set_cons_zero, List.set_cons_succ]
      refine S_take (i := 17) (v := undef) rfl rfl (by kernel_rfl) (by kernel_rfl) (by kernel_rfl) (fun _ _ _ h => h) (Or.inr ⟨by rfl, rfl⟩) hS ?_
      simp only [Act.put, List.getElem_toArray, List.getElem_cons_succ, List.getElem_cons_zero, List.setIfInBounds_toArray, List.set_cons_zero, List.set_cons_succ]
      refine S_take (i := 18) (v := .bool false) rfl rfl (by kernel_rfl) (by kernel_rfl) (by kernel_rfl) (fun _ _ _ h => h) (Or.inl ⟨by rfl, fun W hw => by go_simp⟩) hS ?_
      simp only [Act.put, List.getElem_toArray, List.getElem_cons_succ, List.getElem_cons_zero, List.setIfInBounds_toArray, List.set_cons_zero, List.set_cons_succ]
      refine S_take (i := 19) (v := .bool false) rfl rfl (by kernel_rfl) (by kernel_rfl) (by kernel_rfl) (fun _ _ _ h => h) (Or.inl ⟨by rfl, fun W hw => by go_simp⟩) hS ?_
      simp only [Act.put, List.getElem_toArray, List.getElem_cons_succ, List.getElem_cons_zero, List.setIfInBounds_toArray, List.set_cons_zero, List.set_cons_succ]
      refine S_take (i := 20) (v := undef) rfl rfl (by kernel_rfl) (by kernel_rfl) (by kernel_rfl) (fun _ _ _ h => h) (Or.inr ⟨by rfl, rfl⟩) hS ?_
      simp only [Act.put, List.getElem_toArray, List.getElem_cons_succ, List.getElem_cons_zero, List.setIfInBounds_toArray, List.set_cons_zero, List.set_cons_succ]
      refine S_take (i := 21) (v := undef) rfl rfl (by kernel_rfl) (by kernel_rfl) (by kernel_rfl) (fun _ _ _ h => h) (Or.inr ⟨by rfl, rfl⟩) hS ?_
      simp only [Act.put, List.getElem_toArray, List.getElem_cons_succ, List.getElem_cons_zero, List.setIfInBounds_toArray, List.set_cons_zero, List.set_cons_succ]
      refine S_take (i := 22) (v := undef) rfl rfl (by kernel_rfl) (by kernel_rfl) (by kernel_rfl) (fun _ _ _ h => h) (Or.inr ⟨by rfl, rfl⟩) hS ?_
      simp only [Act.put, List.getElem_toArray, List.getElem_cons_succ, List.getElem_cons_zero, List.setIfInBounds_toArray, List.set_cons_zero, List.set_cons_succ]
      refine S_take (i := 23) (v := undef) rfl rfl (by kernel_rfl) (by kernel_rfl) (by kernel_rfl) (fun _ _ _ h => h) (Or.inr ⟨by rfl, rfl⟩) hS ?_
      simp only [Act.put, List.getElem_toArray, List.getElem_cons_succ, List.getElem_cons_zero, List.setIfInBounds_toArray, List.set_cons_zero, List.set_cons_succ]
      refine S_take (i := 24) (v := undef) rfl rfl (by kernel_rfl) (by kernel_rfl) (by kernel_rfl) (fun _ _ _ h => h) (Or.inr ⟨by rfl, rfl⟩) hS ?_
      simp only [Act.put, List.getElem_toArray, List.getElem_cons_succ, List.getElem_cons_zero, List.setIfInBounds_toArray, List.set_cons_zero, List.set_cons_succ]
      refine S_take (i := 25) (v := .bool false) rfl rfl (by kernel_rfl) (by kernel_rfl) (by kernel_rfl) (fun _ _ _ h => h) (Or.inl ⟨by rfl, fun W hw => by go_simp⟩) hS ?_
      simp only [Act.put, List.getElem_toArray, List.getElem_cons_succ, List.getElem_cons_zero, List.setIfInBounds_toArray, List.set_cons_zero, List.set_cons_succ]
      refine S_take (i := 26) (v := .bool false) rfl rfl (by kernel_rfl) (by kernel_rfl) (by kernel_rfl) (fun _ _ _ h => h) (Or.inl ⟨by rfl, fun W hw => by go_simp⟩) hS ?_
      simp only [Act.put, List.getElem_toArray, List.getElem_cons_succ, List.getElem_cons_zero, List.setIfInBounds_toArray, List.set_cons_zero, List.set_cons_succ]
      refine S_take (i := 27) (v := undef) rfl rfl (by kernel_rfl) (by kernel_rfl) (by kernel_rfl) (fun _ _ _ h => h) (Or.inr ⟨by rfl, rfl⟩) hS ?_
      simp only [Act.put, List.getElem_toArray, List.getElem_cons_succ, List.getElem_cons_zero, List.setIfInBounds_toArray, List.set_cons_zero, List.set_cons_succ]
      refine S_take (i := 28) (v := undef) rfl rfl (by kernel_rfl) (by kernel_rfl) (by kernel_rfl) (fun _ _ _ h => h) (Or.inr ⟨by rfl, rfl⟩) hS ?_
      simp only [Act.put, List.getElem_toArray, List.getElem_cons_succ, List.getElem_cons_zero, List.setIfInBounds_toArray, List.set_cons_zero, List.set_cons_succ]
      refine S_take (i := 29) (v := undef) rfl rfl (by kernel_rfl) (by kernel_rfl) (by kernel_rfl) (fun _ _ _ h => h) (Or.inr ⟨by rfl, rfl⟩) hS ?_
      simp only [Act.put, List.getElem_toArray, List.getElem_cons_succ, List.getElem_cons_zero, List.setIfInBounds_toArray, List.set_cons_zero, List.set_cons_succ]
      refine S_take (i := 30) (v := undef) rfl rfl (by kernel_rfl) (by kernel_rfl) (by kernel_rfl) (fun _ _ _ h => h) (Or.inr ⟨by rfl, rfl⟩) hS ?_
      simp only [Act.put, List.getElem_toArray, List.getElem_cons_succ, List.getElem_cons_zero, List.setIfInBounds_toArray, List.set_cons_zero, List.set_cons_succ]
      refine S_take (i := 31) (v := undef) rfl rfl (by kernel_rfl) (by kernel_rfl) (by kernel_rfl) (fun _ _ _ h => h) (Or.inr ⟨by rfl, rfl⟩) hS ?_
      simp only [Act.put, List.getElem_toArray, List.getElem_cons_succ, List.getElem_cons_zero, List.setIfInBounds_toArray, List.set_cons_zero, List.set_cons_succ]
      refine S_take (i := 32) (v := .bool false) rfl rfl (by kernel_rfl) (by kernel_rfl) (by kernel_rfl) (fun _ _ _ h => h) (Or.inl ⟨by rfl, fun W hw => by go_simp⟩) hS ?_
      simp only [Act.put, List.getElem_toArray, List.getElem_cons_succ, List.getElem_cons_zero, List.setIfInBounds_toArray, List.set_cons_zero, List.set_cons_succ]
      refine S_take (i := 33) (v := .bool false) rfl rfl (by kernel_rfl) (by kernel_rfl) (by kernel_rfl) (fun _ _ _ h => h) (Or.inl ⟨by rfl, fun W hw => by go_simp⟩) hS ?_
      simp only [Act.put, List.getElem_toArray, List.getElem_cons_succ, List.getElem_cons_zero, List.setIfInBounds_toArray, List.set_cons_zero, List.set_cons_succ]
      refine L_done (by kernel_rfl) ?_
      refine NoPanic.normal ?_
      have HS9 := Lib.hid hS
      clear hS
      go_wp2
      go_ret
      exact ⟨false, rfl, sv_no (.inr (.inl (fun e => by have := H2.out.2 e; cases this))), HB8.out.trans (HS9.out.mono HB8.out.size)⟩
  | false =>
    refine S_take (i := 5) (v := .bool false) rfl rfl (by kernel_rfl) (by kernel_rfl) (by kernel_rfl) (fun _ _ _ h => h) (Or.inl ⟨by rfl, fun W hw => by go_simp⟩) hS ?_
    simp only [Act.put, List.getElem_toArray, List.getElem_cons_succ, List.getElem_cons_zero, List.setIfInBounds_toArray, List.set_cons_zero, List.set_cons_succ]
    refine S_take (i := 6) (v := undef) rfl rfl (by kernel_rfl) (by kernel_rfl) (by kernel_rfl) (fun _ _ _ h => h) (Or.inr ⟨by rfl, rfl⟩) hS ?_
    simp only [Act.put, List.getElem_toArray, List.getElem_cons_succ, List.getElem_cons_zero, List.setIfInBounds_toArray, List.set_cons_zero, List.set_cons_succ]
    refine S_take (i := 7) (v := undef) rfl rfl (by kernel_rfl) (by kernel_rfl) (by kernel_rfl) (fun _ _ _ h => h) (Or.inr ⟨by rfl, rfl⟩) hS ?_
    simp only [Act.put, List.getElem_toArray, List.getElem_cons_succ, List.getElem_cons_zero, List.setIfInBounds_toArray, List.set_cons_zero, List.set_cons_succ]
    refine S_take (i := 8) (v := undef) rfl rfl (by kernel_rfl) (by kernel_rfl) (by kernel_rfl) (fun _ _ _ h => h) (Or.inr ⟨by rfl, rfl⟩) hS ?_
    simp only [Act.put, List.getElem_toArray, List.getElem_cons_succ, List.getElem_cons_zero, List.setIfInBounds_toArray, List.set_cons_zero, List.set_cons_succ]
    refine S_take (i := 9) (v := undef) rfl rfl (by kernel_rfl) (by kernel_rfl) (by kernel_rfl) (fun _ _ _ h => h) (Or.inr ⟨by rfl, rfl⟩) hS ?_
    simp only [Act.put, List.getElem_toArray, List.getElem_cons_succ, List.getElem_cons_zero, List.setIfInBounds_toArray, List.set_cons_zero, List.set_cons_succ]
    refine S_take (i := 10) (v := undef) rfl rfl (by kernel_rfl) (by kernel_rfl) (by kernel_rfl) (fun _ _ _ h => h) (Or.inr ⟨by rfl, rfl⟩) hS ?_
    simp only [Act.put, List.getElem_toArray, List.getElem_cons_succ, List.getElem_cons_zero, List.setIfInBounds_toArray, List.set_cons_zero, List.set_cons_succ]
    refine S_take (i := 11) (v := .bool false) rfl rfl (by kernel_rfl) (by kernel_rfl) (by kernel_rfl) (fun _ _ _ h => h) (Or.inl ⟨by rfl, fun W hw => by go_simp⟩) hS ?_
    simp only [Act.put, List.getElem_toArray, List.getElem_cons_succ, List.getElem_cons_zero, List.setIfInBounds_toArray, List.set_cons_zero, List.set_cons_succ]
    refine S_take (i := 12) (v := .bool false) rfl rfl (by kernel_rfl) (by kernel_rfl) (by kernel_rfl) (fun _ _ _ h => h) (Or.inl ⟨by rfl, fun W hw => by go_simp⟩) hS ?_
    simp only [Act.put, List.getElem_toArray, List.getElem_cons_succ, List.getElem_cons_zero, List.setIfInBounds_toArray, List.set_cons_zero, List.set_cons_succ]
    refine S_take (i := 13) (v := undef) rfl rfl (by kernel_rfl) (by kernel_rfl) (by kernel_rfl) (fun _ _ _ h => h) (Or.inr ⟨by rfl, rfl⟩) hS ?_
    simp only [Act.put, List.getElem_toArray, List.getElem_cons_succ, List.getElem_cons_zero, List.setIfInBounds_toArray, List.set_cons_zero, List.set_cons_succ]
    refine S_take (i := 14) (v := undef) rfl rfl (by kernel_rfl) (by kernel_rfl) (by kernel_rfl) (fun _ _ _ h => h) (Or.inr ⟨by rfl, rfl⟩) hS ?_
    simp only [Act.put, List.getElem_toArray, List.getElem_cons_succ, List.getElem_cons_zero, List.setIfInBounds_toArray, List.set_cons_zero, List.set_cons_succ]
    refine S_take (i := 15) (v := undef) rfl rfl (by kernel_rfl) (by kernel_rfl) (by kernel_rfl) (fun _ _ _ h => h) (Or.inr ⟨by rfl, rfl⟩) hS ?_
    simp only [Act.put, List.getElem_toArray, List.getElem_cons_succ, List.getElem_cons_zero, List.setIfInBounds_toArray, List.set_cons_zero, List.set_cons_succ]
    refine S_take (i := 16) (v := undef) rfl rfl (by kernel_rfl) (by kernel_rfl) (by kernel_rfl) (fun _ _ _ h => h) (Or.inr ⟨by rfl, rfl⟩) hS ?_
    simp only [Act.put, List.getElem_toArray, List.getElem_cons_succ, List.getElem_cons_zero, List.setIfInBounds_toArray, List.set_cons_zero, List.set_cons_succ]
    refine S_take (i := 17) (v := undef) rfl rfl (by kernel_rfl) (by kernel_rfl) (by kernel_rfl) (fun _ _ _ h => h) (Or.inr ⟨by rfl, rfl⟩) hS ?_
    simp only [Act.put, List.getElem_toArray, List.getElem_cons_succ, List.getElem_cons_zero, List.setIfInBounds_toArray, List.set_cons_zero, List.set_cons_succ]
    refine S_take (i := 18) (v := .bool false) rfl rfl (by kernel_rfl) (by kernel_rfl) (by kernel_rfl) (fun _ _ _ h => h) (Or.inl ⟨by rfl, fun W hw => by go_simp⟩) hS ?_
    simp only [Act.put, List.getElem_toArray, List.getElem_cons_succ, List.getElem_cons_zero, List.setIfInBounds_toArray, List.set_cons_zero, List.set_cons_succ]
    refine S_take (i := 19) (v := .bool false) rfl rfl (by kernel_rfl) (by kernel_rfl) (by kernel_rfl) (fun _ _ _ h => h) (Or.inl ⟨by rfl, fun W hw => by go_simp⟩) hS ?_
    simp only [Act.put, List.getElem_toArray, List.getElem_cons_succ, List.getElem_cons_zero, List.setIfInBounds_toArray, List.set_cons_zero, List.set_cons_succ]
    refine S_take (i := 20) (v := undef) rfl rfl (by kernel_rfl) (by kernel_rfl) (by kernel_rfl) (fun _ _ _ h => h) (Or.inr ⟨by rfl, rfl⟩) hS ?_
    simp only [Act.put, List.getElem_toArray, List.getElem_cons_succ, List.getElem_cons_zero, List.setIfInBounds_toArray, List.set_cons_zero, List.set_cons_succ]
    refine S_take (i := 21) (v := undef) rfl rfl (by kernel_rfl) (by kernel_rfl) (by kernel_rfl) (fun _ _ _ h => h) (Or.inr ⟨by rfl, rfl⟩) hS ?_
    simp only [Act.put, List.getElem_toArray, List.getElem_cons_succ, List.getElem_cons_zero, List.setIfInBounds_toArray, List.set_cons_zero, List.set_cons_succ]
    refine S_take (i := 22) (v := undef) rfl rfl (by kernel_rfl) (by kernel_rfl) (by kernel_rfl) (fun _ _ _ h => h) (Or.inr ⟨by rfl, rfl⟩) hS ?_
    simp only [Act.put, List.getElem_toArray, List.getElem_cons_succ, List.getElem_cons_zero, List.setIfInBounds_toArray, List.set_cons_zero, List.set_cons_succ]
    refine S_take (i := 23) (v := undef) rfl rfl (by kernel_rfl) (by kernel_rfl) (by kernel_rfl) (fun _ _ _ h => h) (Or.inr ⟨by rfl, rfl⟩) hS ?_
    simp only [Act.put, List.getElem_toArray, List.getElem_cons_succ, List.getElem_cons_zero, List.setIfInBounds_toArray, List.set_cons_zero, List.set_cons_succ]
    refine S_take (i := 24) (v := undef) rfl rfl (by kernel_rfl) (by kernel_rfl) (by kernel_rfl) (fun _ _ _ h => h) (Or.inr ⟨by rfl, rfl⟩) hS ?_
    simp only [Act.put, List.getElem_toArray, List.getElem_cons_succ, List.getElem_cons_zero, List.setIfInBounds_toArray, List.set_cons_zero, List.set_cons_succ]
    refine S_take (i := 25) (v := .bool false) rfl rfl (by kernel_rfl) (by kernel_rfl) (by kernel_rfl) (fun _ _ _ h => h) (Or.inl ⟨by rfl, fun W hw => by go_simp⟩) hS ?_
    simp only [Act.put, List.getElem_toArray, List.getElem_cons_succ, List.getElem_cons_zero, List.setIfInBounds_toArray, List.set_cons_zero, List.set_cons_succ]
    refine S_take (i := 26) (v := .bool false) rfl rfl (by kernel_rfl) (by kernel_rfl) (by kernel_rfl) (fun _ _ _ h => h) (Or.inl ⟨by rfl, fun W hw => by go_simp⟩) hS ?_
    simp only [Act.put, List.getElem_toArray, List.getElem_cons_succ, List.getElem_cons_zero, List.setIfInBounds_toArray, List.set_cons_zero, List.set_cons_succ]
    refine S_take (i := 27) (v := undef) rfl rfl (by kernel_rfl) (by kernel_rfl) (by kernel_rfl) (fun _ _ _ h => h) (Or.inr ⟨by rfl, rfl⟩) hS ?_
    simp only [Act.put, List.getElem_toArray, List.getElem_cons_succ, List.getElem_cons_zero, List.setIfInBounds_toArray, List.set_cons_zero, List.set_cons_succ]
    refine S_take (i := 28) (v := undef) rfl rfl (by kernel_rfl) (by kernel_rfl) (by kernel_rfl) (fun _ _ _ h => h) (Or.inr ⟨by rfl, rfl⟩) hS ?_
    simp only [Act.put, List.getElem_toArray, List.getElem_cons_succ, List.getElem_cons_zero, List.setIfInBounds_toArray, List.set_cons_zero, List.set_cons_succ]
    refine S_take (i := 29) (v := undef) rfl rfl (by kernel_rfl) (by kernel_rfl) (by kernel_rfl) (fun _ _ _ h => h) (Or.inr ⟨by rfl, rfl⟩) hS ?_
    simp only [Act.put, List.getElem_toArray, List.getElem_cons_succ, List.getElem_cons_zero, List.setIfInBounds_toArray, List.set_cons_zero, List.set_cons_succ]
    refine S_take (i := 30) (v := undef) rfl rfl (by kernel_rfl) (by kernel_rfl) (by kernel_rfl) (fun _ _ _ h => h) (Or.inr ⟨by rfl, rfl⟩) hS ?_
    simp only [Act.put, List.getElem_toArray, List.getElem_cons_succ, List.getElem_cons_zero, List.setIfInBounds_toArray, List.set_cons_zero, List.set_cons_succ]
    refine S_take (i := 31) (v := undef) rfl rfl (by kernel_rfl) (by kernel_rfl) (by kernel_rfl) (fun _ _ _ h => h) (Or.inr ⟨by rfl, rfl⟩) hS ?_
    simp only [Act.put, List.getElem_toArray, List.getElem_cons_succ, List.getElem_cons_zero, List.setIfInBounds_toArray, List.set_cons_zero, List.set_cons_succ]
    refine S_take (i := 32) (v := .bool false) rfl rfl (by kernel_rfl) (by kernel_rfl) (by kernel_rfl) (fun _ _ _ h => h) (Or.inl ⟨by rfl, fun W hw => by go_simp⟩) hS ?_
    simp only [Act.put, List.getElem_toArray, List.getElem_cons_succ, List.getElem_cons_zero, List.setIfInBounds_toArray, List.set_cons_zero, List.set_cons_succ]
    refine S_take (i := 33) (v := .bool false) rfl rfl (by kernel_rfl) (by kernel_rfl) (by kernel_rfl) (fun _ _ _ h => h) (Or.inl ⟨by rfl, fun W hw => by go_simp⟩) hS ?_
    simp only [Act.put, List.getElem_toArray, List.getElem_cons_succ, List.getElem_cons_zero, List.setIfInBounds_toArray, List.set_cons_zero, List.set_cons_succ]
    refine L_done (by kernel_rfl) ?_
    refine NoPanic.normal ?_
    have HS9 := Lib.hid hS
    clear hS
    go_wp2
    go_ret
    exact ⟨false, rfl, sv_no (.inl (fun e => by have := H1.out.2 e; cases this)), HB8.out.trans (HS9.out.mono HB8.out.size)⟩
set_option maxHeartbeats 8000000 in
theorem eqsnaps_any (l1 l2 : List SA) (A1 A2 : Option Addr) (c1 c2 : Nat) (w : World) (hn1 : l1.length ≤ 1000000) (hn2 : l2.length ≤ 1000000) (h1 : Reads w w.heap.size 11 A1 l1.length (l1.flatMap SA.cells)) (h2 : Reads w w.heap.size 11 A2 l2.length (l2.flatMap SA.cells))
    (hs1 : ∀ s ∈ l1, s.R w ∧ s.ch.length ≤ 1000000) (hs2 : ∀ s ∈ l2, s.R w ∧ s.ch.length ≤ 1000000) :
    Calls Try.prog 60 #[.slice A1 l1.length c1, .slice A2 l2.length c2, .func (.func 61) #[] #[]] w (SameTo w (l1.map SA.v = l2.map SA.v)) := by
  by_cases hne : l1.length = l2.length
  · obtain ⟨n, hn⟩ : ∃ n, l1.length = n := ⟨_, rfl⟩
    have e2 : l2.length = n := by omega
    have H1 : Hid (Reads w w.heap.size 11 A1 l1.length (l1.flatMap SA.cells)) := Lib.hid h1
    have H2 : Hid (Reads w w.heap.size 11 A2 l2.length (l2.flatMap SA.cells)) := Lib.hid h2
    have HS1 := Lib.hid hs1
    have HS2 := Lib.hid hs2
    have HN := Lib.hid (And.intro hn e2)
    rw [hn, e2]
    have hnn : n ≤ 1000000 := by omega
    clear h1 h2 hs1 hs2 hn e2 hne hn1 hn2
    go_enter Try.func60, Try.ntmps60
    go_wp2
    go_loopw [17] (fun i wr => ∃ k : Nat, k ≤ n ∧ i = .int .i64 k ∧ Below w.heap.size w wr ∧ ∀ j, j < k → (l1.map SA.v)[j]? = (l2.map SA.v)[j]?) (fun i _ => n - (intOf i).toNat)
    case atStart => exact ⟨0, by omega, rfl, Below.refl _ _, fun j h => by omega⟩
    case round =>
      obtain ⟨k, hk, rfl, hb, hall⟩ := hrel
      have HA := Lib.hid hall
      have HB := Lib.hid hb
      have hwk : IntKind.i64.wrap ((k : Int) + 1) = (k : Int) + 1 := by rw [IntKind.wrap_i64]; omega
      clear hall hb
      by_cases hlt : k < n
      · obtain ⟨s, hs⟩ : ∃ s, l1[k]? = some s := ⟨_, List.getElem?_eq_getElem (by have := HN.out.1; omega)⟩
        obtain ⟨t, ht⟩ : ∃ t, l2[k]? = some t := ⟨_, List.getElem?_eq_getElem (by have := HN.out.2; omega)⟩
        obtain ⟨ad, had, -, hc⟩ := snap_at SA.cells_len (H1.out.since HB.out) hs
        obtain ⟨ad2, had2, hlt2, hc2⟩ := snap_at SA.cells_len (H2.out.since HB.out) ht
        have p1 := HS1.out s (List.mem_of_getElem? hs)
        have p2 := HS2.out t (List.mem_of_getElem? ht)
        have HST := Lib.hid (And.intro hs ht)
        obtain ⟨wA, hwA⟩ : ∃ wA, wA = (wr.alloc (.cells s.cells.toArray 66)).alloc (.cells t.cells.toArray 66) := ⟨_, rfl⟩
        have hbA : Below w.heap.size w wA := by rw [hwA]; exact (HB.out.alloc HB.out.size _).alloc (Nat.le_trans HB.out.size (by simp)) _
        have HCL := Lib.hid (samesnap_any s t wA (p1.1.since hbA) (p2.1.since hbA) p1.2 p2.2)
        have hc3 : ∀ j v, t.cells[j]? = some v → (wr.alloc (.cells s.cells.toArray 66)).cell? ((ad2.add (k * 11)).add j) = some v := fun j v hj => by
          have e := hc2 j v hj
          exact ((below_alloc wr (.cells s.cells.toArray 66)).cell (World.block_lt_of_cell? wr _ e)).trans e
        have K1 : Blk wA wr.heap.size 66 s.cells.toArray := by rw [hwA]; exact (Blk.new wr _ _).alloc _
        have K2 : Blk wA (wr.heap.size + 1) 66 t.cells.toArray := by rw [hwA]; exact blk_two wr _ _ _
        have HBA := Lib.hid hbA
        rw [hwA] at K1 K2
        have HWA := Lib.hid hwA
        subst had had2
        clear hs ht p1 p2 hbA hwA hc2
        unfold SA.cells at K1 K2 hc3 HWA HCL
        go_wp2_with (first
          | (have _h := hc; refine wpList_loadp rfl 66 (.tmp 20) rfl _ [.int .i64 s.num, .int .i64 s.vw.size, .string (strOf s.name), .bool s.vw.on, .bool s.vw.good, .bool s.prot, .slice s.vw.M s.vw.row.length s.vw.cm, .string (strOf s.vw.par), .int .i64 s.vw.ps, .int .i64 s.vw.ov, .slice s.C s.ch.length s.cc] _ rfl hc Try.underlying66 rfl (by kernel_rfl) ?_; clear _h hc)
          | (have _h := hc3; refine wpList_loadp rfl 66 (.tmp 24) rfl _ [.int .i64 t.num, .int .i64 t.vw.size, .string (strOf t.name), .bool t.vw.on, .bool t.vw.good, .bool t.prot, .slice t.vw.M t.vw.row.length t.vw.cm, .string (strOf t.vw.par), .int .i64 t.vw.ps, .int .i64 t.vw.ov, .slice t.C t.ch.length t.cc] _ rfl hc3 Try.underlying66 rfl (by kernel_rfl) ?_; clear _h hc3)
          | (have _h := K1; refine wpList_loadq rfl 66 (.tmp 8) rfl wr.heap.size [.int .i64 s.num, .int .i64 s.vw.size, .string (strOf s.name), .bool s.vw.on, .bool s.vw.good, .bool s.prot, .slice s.vw.M s.vw.row.length s.vw.cm, .string (strOf s.vw.par), .int .i64 s.vw.ps, .int .i64 s.vw.ov, .slice s.C s.ch.length s.cc] _ rfl K1 Try.underlying66 rfl (by kernel_rfl) ?_; clear _h K1)
          | (have _h := K2; refine wpList_loadq rfl 66 (.tmp 9) rfl (wr.heap.size + 1) [.int .i64 t.num, .int .i64 t.vw.size, .string (strOf t.name), .bool t.vw.on, .bool t.vw.good, .bool t.prot, .slice t.vw.M t.vw.row.length t.vw.cm, .string (strOf t.vw.par), .int .i64 t.vw.ps, .int .i64 t.vw.ov, .slice t.C t.ch.length t.cc] _ rfl K2 Try.underlying66 rfl (by kernel_rfl) ?_; clear _h K2))
        rw [← HWA.out]
        refine HCL.out.mono ?_
        rintro e w1 ⟨r, rfl, hr, b1⟩
        have HB1 := Lib.hid (HBA.out.trans (b1.mono HBA.out.size))
        have HR := Lib.hid hr
        clear b1 hr HCL HWA
        cases r with
        | true =>
          go_wp2
          go_roundw
          case rel => exact ⟨k + 1, by omega, by go_num, HB1.out, fun j hj => by
            rcases Nat.lt_succ_iff_lt_or_eq.1 hj with h | rfl
            · exact HA.out j h
            · rw [List.getElem?_map, List.getElem?_map, HST.out.1, HST.out.2]; exact congrArg some (HR.out.1 (by trivial))⟩
          case measure => simp [intOf]; omega
        | false =>
          go_wp2
          go_ret
          exact ⟨false, rfl, ⟨fun h => (by cases h), fun h => by
            have e := congrArg (fun l => l[k]?) h
            simp only [List.getElem?_map, HST.out.1, HST.out.2] at e
            exact HR.out.2 (Option.some.inj e)⟩, HB1.out⟩
      · obtain rfl : k = n := by omega
        go_wp2
        go_ret
        exact ⟨true, rfl, ⟨fun _ => List.ext_getElem? fun j => by
          by_cases hj : j < k
          · exact HA.out j hj
          · rw [List.getElem?_eq_none (by have := HN.out.1; simp; omega), List.getElem?_eq_none (by have := HN.out.2; simp; omega)], fun _ => rfl⟩, HB.out⟩
  · have hd : ((l1.length : Int) == (l2.length : Int)) = false := by rw [beq_eq_false_iff_ne]; omega
    have HN := Lib.hid hne
    clear hne h1 h2 hs1 hs2
    go_enter Try.func60, Try.ntmps60
    go_wp2
    go_ret
    exact ⟨false, rfl, ⟨fun h => (by cases h), fun h => absurd (by simpa using congrArg List.length h) HN.out⟩, Below.refl _ _⟩
end Go.Proofs.Ytgddenhnpjoabaa

/-
  Two rows of six numbers compared. No condition.
-/
namespace Go.Proofs.Ytgddenhnpjoabaa
open Go.RowKit Go.BigFrame
set_option linter.unusedSimpArgs false
set_option linter.unusedVariables false
set_option maxRecDepth 100000
def HA.six (a : HA) : Array Value := #[.int .i64 a.id, .int .i64 a.obj, .int .i64 a.seq, .int .i64 a.ow, .int .i64 a.it, .int .i64 a.tg]
def SixSame (a b : HA) : Prop := a.id = b.id ∧ a.obj = b.obj ∧ a.seq = b.seq ∧ a.ow = b.ow ∧ a.it = b.it ∧ a.tg = b.tg
instance (a b : HA) : Decidable (SixSame a b) := by unfold SixSame; infer_instance
theorem run_six_in (a1 a2 a3 a4 a5 a6 b1 b2 b3 b4 b5 b6 : Int) (w : World) : (Op.equalIn 10000 101 (.agg #[.int .i64 a1, .int .i64 a2, .int .i64 a3, .int .i64 a4, .int .i64 a5, .int .i64 a6]) (.agg #[.int .i64 b1, .int .i64 b2, .int .i64 b3, .int .i64 b4, .int .i64 b5, .int .i64 b6])).run Try.prog w = .ok (decide (a1 = b1 ∧ a2 = b2 ∧ a3 = b3 ∧ a4 = b4 ∧ a5 = b5 ∧ a6 = b6)) w := by
  have hsz : (sizeOf 3).run Try.prog w = .ok 1 w := by kernel_rfl
  have pe : ∀ (x y : Int), (Op.equalIn (9998 + 1) 3 (.int .i64 x) (.int .i64 y)).run Try.prog w = .ok (x == y) w := fun x y => run_equalIn_int w 9998 3 .i64 .i64 x y Try.underlying3
  rw [show (10000 : Nat) = (9998 + 1) + 1 from rfl, Op.equalIn]
  simp only [Sem.run_bind, run_underlying Try.underlying101, Result.andThen_ok, hsz, Std.Legacy.Range.forIn_eq_forIn_range', Std.Legacy.Range.size, Nat.sub_zero, Nat.add_sub_cancel, Nat.div_one]
  simp only [List.range', List.forIn_cons, List.forIn_nil, Sem.run_bind]
  have p0 : ∀ x1 x2 x3 x4 x5 x6 : Int, (Go.part 3 #[Value.int .i64 x1, .int .i64 x2, .int .i64 x3, .int .i64 x4, .int .i64 x5, .int .i64 x6] 0).run Try.prog w = Result.ok (.int .i64 x1) w := fun x1 x2 x3 x4 x5 x6 => by first | kernel_rfl | rfl | simp [Go.part, Go.isAgg, run_underlying Try.underlying3]
  have p1 : ∀ x1 x2 x3 x4 x5 x6 : Int, (Go.part 3 #[Value.int .i64 x1, .int .i64 x2, .int .i64 x3, .int .i64 x4, .int .i64 x5, .int .i64 x6] 1).run Try.prog w = Result.ok (.int .i64 x2) w := fun x1 x2 x3 x4 x5 x6 => by first | kernel_rfl | rfl | simp [Go.part, Go.isAgg, run_underlying Try.underlying3]
  have p2 : ∀ x1 x2 x3 x4 x5 x6 : Int, (Go.part 3 #[Value.int .i64 x1, .int .i64 x2, .int .i64 x3, .int .i64 x4, .int .i64 x5, .int .i64 x6] 2).run Try.prog w = Result.ok (.int .i64 x3) w := fun x1 x2 x3 x4 x5 x6 => by first | kernel_rfl | rfl | simp [Go.part, Go.isAgg, run_underlying Try.underlying3]
  have p3 : ∀ x1 x2 x3 x4 x5 x6 : Int, (Go.part 3 #[Value.int .i64 x1, .int .i64 x2, .int .i64 x3, .int .i64 x4, .int .i64 x5, .int .i64 x6] 3).run Try.prog w = Result.ok (.int .i64 x4) w := fun x1 x2 x3 x4 x5 x6 => by first | kernel_rfl | rfl | simp [Go.part, Go.isAgg, run_underlying Try.underlying3]
  have p4 : ∀ x1 x2 x3 x4 x5 x6 : Int, (Go.part 3 #[Value.int .i64 x1, .int .i64 x2, .int .i64 x3, .int .i64 x4, .int .i64 x5, .int .i64 x6] 4).run Try.prog w = Result.ok (.int .i64 x5) w := fun x1 x2 x3 x4 x5 x6 => by first | kernel_rfl | rfl | simp [Go.part, Go.isAgg, run_underlying Try.underlying3]
  have p5 : ∀ x1 x2 x3 x4 x5 x6 : Int, (Go.part 3 #[Value.int .i64 x1, .int .i64 x2, .int .i64 x3, .int .i64 x4, .int .i64 x5, .int .i64 x6] 5).run Try.prog w = Result.ok (.int .i64 x6) w := fun x1 x2 x3 x4 x5 x6 => by first | kernel_rfl | rfl | simp [Go.part, Go.isAgg, run_underlying Try.underlying3]
  have pe1 : ∀ (x y : Int), x ≠ y → (Op.equalIn (9998 + 1) 3 (.int .i64 x) (.int .i64 y)).run Try.prog w = .ok false w := fun x y h => by rw [pe, beq_eq_false_iff_ne.2 h]
  have pe2 : ∀ (x : Int), (Op.equalIn (9998 + 1) 3 (.int .i64 x) (.int .i64 x)).run Try.prog w = .ok true w := fun x => by rw [pe, beq_self_eq_true]
  clear pe
  generalize Op.equalIn (9998 + 1) 3 = eq at *
  by_cases h1 : a1 = b1
  rotate_left
  · simp [p0, p1, p2, p3, p4, p5, pe1, h1]
  subst h1
  by_cases h2 : a2 = b2
  rotate_left
  · simp [p0, p1, p2, p3, p4, p5, pe1, pe2, h2]
  subst h2
  by_cases h3 : a3 = b3
  rotate_left
  · simp [p0, p1, p2, p3, p4, p5, pe1, pe2, h3]
  subst h3
  by_cases h4 : a4 = b4
  rotate_left
  · simp [p0, p1, p2, p3, p4, p5, pe1, pe2, h4]
  subst h4
  by_cases h5 : a5 = b5
  rotate_left
  · simp [p0, p1, p2, p3, p4, p5, pe1, pe2, h5]
  subst h5
  by_cases h6 : a6 = b6
  rotate_left
  · simp [p0, p1, p2, p3, p4, p5, pe1, pe2, h6]
  subst h6
  simp [p0, p1, p2, p3, p4, p5, pe2]
theorem run_six_eql (a b : HA) (w : World) : (binOp .eql 101 (.agg a.six) (.agg b.six)).run Try.prog w = .ok (.bool (decide (SixSame a b))) w := by
  rw [run_eql_struct]
  unfold HA.six
  rw [run_six_in]
  rfl
end Go.Proofs.Ytgddenhnpjoabaa
