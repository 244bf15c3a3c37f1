/-
  Clones without snapshots are deleted from a row of the call's own. Conditions: the row reads as it is said to.
-/
import Derived.Test.YtjepfeagbiceoaaQq
namespace Go.Proofs.Ytjepfeagbiceoaa
open Go.RowKit Go.BigFrame
set_option linter.unusedSimpArgs false
set_option linter.unusedVariables false
set_option maxRecDepth 100000
theorem trim2_any (w : World) (c : CA) (h : c.sn.length ≤ 9223372036854775807) : Calls Try.prog 72 #[.agg #[.slice c.S c.sn.length c.cs, .slice c.D c.dt.length c.cd]] w fun e w' => e = .returned (.bool (decide (c.sn = []))) ∧ Below w.heap.size w w' := by
  have HB := Lib.hid (below_alloc w (.cells #[.slice c.S c.sn.length c.cs, .slice c.D c.dt.length c.cd] 79))
  obtain ⟨n, hn⟩ : ∃ n, n = c.sn.length := ⟨_, rfl⟩
  by_cases h0 : n = 0
  · have he : decide (c.sn = []) = true := decide_eq_true (List.eq_nil_of_length_eq_zero (by omega))
    have HE := Lib.hid he
    have hb : ((n : Int) == 0) = true := beq_iff_eq.2 (by omega)
    rw [← hn] at HB ⊢
    clear he h hn h0
    go_enter Try.func72, Try.ntmps72
    go_wp2
    go_ret
    rw [HE.out]
    exact ⟨by rw [← hb]; rfl, HB.out⟩
  · have he : decide (c.sn = []) = false := decide_eq_false (fun e => h0 (by rw [hn, e]; rfl))
    have HE := Lib.hid he
    have hb : ((n : Int) == 0) = false := beq_eq_false_iff_ne.2 (by omega)
    rw [← hn] at HB ⊢
    clear he h hn h0
    go_enter Try.func72, Try.ntmps72
    go_wp2
    go_ret
    rw [HE.out]
    exact ⟨by rw [← hb]; rfl, HB.out⟩
def emptV : Value := .func (.func 72) #[] #[]
def IdcTo (w : World) (l : List CA) (e : Ending) (w' : World) : Prop := Below w.heap.size w w' ∧ ((e = .returned (.int .i64 (-1)) ∧ ∀ x ∈ l, x.sn ≠ []) ∨ ∃ (k : Nat) (x : CA), e = .returned (.int .i64 k) ∧ l[k]? = some x ∧ x.sn = [] ∧ ∀ x ∈ l.take k, x.sn ≠ [])
theorem flat2 {w : World} {B n : Nat} {A : Option Addr} {l : List CA} (h : Reads w B 2 A n (l.flatMap CA.cells)) {k : Nat} {c : CA} (hk : l[k]? = some c) : ∃ ad, A = some ad ∧ ad.block < B ∧ ∀ j v, c.cells[j]? = some v → w.cell? ((ad.add (k * 2)).add j) = some v := by
  have hl := (List.getElem?_eq_some_iff.1 hk).1
  have hn : 0 < n := by
    have := h.1
    have h2 : (l.flatMap CA.cells).length = l.length * 2 := by
      clear hk hl h this
      induction l with
      | nil => rfl
      | cons x l ih => simp [CA.cells] at ih ⊢; omega
    omega
  obtain ⟨ad, e, hb, hc⟩ := h.2 hn
  refine ⟨ad, e, hb, fun j v hj => ?_⟩
  rw [add_of_add]
  have hj2 : j < 2 := by have := (List.getElem?_eq_some_iff.1 hj).1; rwa [CA.cells_len] at this
  exact hc _ v (by rw [flat_at CA.cells 2 CA.cells_len l k j c hk hj2]; exact hj)
set_option maxHeartbeats 2000000 in
theorem idxcl_any {w : World} {B n c : Nat} {A : Option Addr} {l : List CA} (h : Reads w B 2 A n (l.flatMap CA.cells)) (hl : l.length = n) (hn : n ≤ 1000000) (hnc : n ≤ c) (hs : ∀ x ∈ l, x.sn.length ≤ 1000000) : Calls Try.prog 99 #[.slice A n c, emptV] w (IdcTo w l) := by
  have H := Lib.hid h
  have HL := Lib.hid (And.intro hl hs)
  clear h hl hs
  go_enter Try.func99, Try.ntmps99
  unfold emptV
  go_wp2
  go_loopw [8] (fun i wr => ∃ k : Nat, k ≤ n ∧ i = .int .i64 k ∧ (∀ x ∈ l.take k, x.sn ≠ []) ∧ Below w.heap.size w wr) (fun i _ => n - (intOf i).toNat)
  case atStart => exact ⟨0, by omega, rfl, by simp, Below.refl _ _⟩
  case round =>
    obtain ⟨k, hk, rfl, hx, hb⟩ := hrel
    obtain ⟨wo, hwo⟩ : ∃ wo, wo = wr := ⟨_, rfl⟩
    subst hwo
    have HX := Lib.hid (And.intro hx hb)
    clear hx
    by_cases hlt : k < n
    · have hwk : IntKind.i64.wrap ((k : Int) + 1) = (k : Int) + 1 := by rw [IntKind.wrap_i64]; omega
      obtain ⟨x, hxk⟩ : ∃ x, l[k]? = some x := ⟨_, List.getElem?_eq_getElem (by have := HL.out.1; omega)⟩
      obtain ⟨ad, rfl, -, hc⟩ := flat2 (H.out.since hb) hxk
      have hsm := HL.out.2 x (List.mem_of_getElem? hxk)
      have HXK := Lib.hid hxk
      have HT := Lib.hid (trim2_any wo x (by omega))
      clear hxk hb
      go_wp2_with (have _h := hc; refine wpList_load_scl rfl (.tmp 14) rfl _ rfl x hc ?_; clear _h hc)
      refine HT.out.mono ?_
      rintro e w2 ⟨rfl, hb2⟩
      have HB2 := Lib.hid (HX.out.2.trans (hb2.mono HX.out.2.size))
      clear hb2 HT
      by_cases he : x.sn = []
      · have hbb : decide (x.sn = []) = true := decide_eq_true he
        have HE := Lib.hid he
        generalize decide (x.sn = []) = bb at hbb ⊢
        subst hbb
        clear he
        go_wp2
        go_ret
        exact ⟨HB2.out, .inr ⟨k, x, rfl, HXK.out, HE.out, HX.out.1⟩⟩
      · have hbb : decide (x.sn = []) = false := decide_eq_false he
        have HE := Lib.hid he
        generalize decide (x.sn = []) = bb at hbb ⊢
        subst hbb
        clear he
        go_wp2
        go_roundw
        case rel =>
          refine ⟨k + 1, by omega, by go_num, ?_, HB2.out⟩
          rw [take_snocI HXK.out]
          intro y hy
          rcases List.mem_append.1 hy with h | h
          · exact HX.out.1 y h
          · simp at h; subst h; exact HE.out
        case measure => simp [intOf]; omega
    · obtain rfl : k = n := by omega
      clear hb
      go_wp2
      go_ret
      refine ⟨HX.out.2, .inl ⟨rfl, ?_⟩⟩
      have := HX.out.1
      rwa [List.take_of_length_le (by rw [HL.out.1]; omega)] at this
def fullC (l : List CA) : List CA := l.filter fun c => decide (c.sn ≠ [])
theorem fullC_id {l : List CA} (h : ∀ x ∈ l, x.sn ≠ []) : fullC l = l := List.filter_eq_self.2 fun x hx => by simpa using h x hx
theorem fullC_snoc (x : CA) (l : List CA) : fullC (l ++ [x]) = fullC l ++ (if x.sn = [] then [] else [x]) := by
  unfold fullC
  rw [List.filter_append]
  by_cases h : x.sn = [] <;> simp [h]
theorem flat_take (l : List CA) (k : Nat) (hk : k ≤ l.length) : (l.take k).flatMap CA.cells = (l.flatMap CA.cells).take (k * 2) := by
  have h1 : l = l.take k ++ l.drop k := (List.take_append_drop k l).symm
  conv => rhs; rw [h1, List.flatMap_append]
  have h2 : ((l.take k).flatMap CA.cells).length = k * 2 := by
    have : ∀ m : List CA, (m.flatMap CA.cells).length = m.length * 2 := fun m => by
      induction m with
      | nil => rfl
      | cons x m ih => simp [CA.cells] at ih ⊢; omega
    rw [this, List.length_take]
    omega
  rw [← h2, List.take_left]
theorem run_tail_cl (r n c i : Nat) (h : i < n) (hc : n ≤ c) (w : World) : (Instr.slice 34 (.slice (some ⟨r, 0, none⟩) n c) (some (.int .i64 (i : Int))) none none).run Try.prog w = .ok (.slice (some ⟨r, i * 2, none⟩) (n - i) (c - i)) w := by
  have hsz : ∀ w, (sizeOf (Try.prog.elem 34)).run Try.prog w = .ok 2 w := fun w => by kernel_rfl
  rw [run_slice_l w 34 (some ⟨r, 0, none⟩) n c (by kernel_rfl) .i64 (i : Int) (by omega) (by omega), hsz]
  simp only [Result.andThen, sliced, Int.toNat_natCast]
  rw [if_neg (by omega)]
  by_cases hz : i * 2 = 0 <;> simp [Addr.add, hz]
theorem run_head_cl (r n c i : Nat) (h : i ≤ c) (w : World) : (Instr.slice 34 (.slice (some ⟨r, 0, none⟩) n c) none (some (.int .i64 (i : Int))) none).run Try.prog w = .ok (.slice (some ⟨r, 0, none⟩) i c) w := by
  have hsz : ∀ w, (sizeOf (Try.prog.elem 34)).run Try.prog w = .ok 2 w := fun w => by kernel_rfl
  rw [run_slice_h w 34 (some ⟨r, 0, none⟩) n c (by kernel_rfl) .i64 (i : Int) (by omega) (by omega), hsz]
  simp [Result.andThen, sliced, Addr.add]
theorem run_clear_cl (w : World) (r o n c : Nat) (hn : 0 < n) (hc : ∀ j, j < n * 2 → (w.cell? ⟨r, o + j, none⟩).isSome = true) (hf : ∀ j, j < n * 2 → w.frozen? ⟨r, o + j, none⟩ = false) :
    ∃ vs : List Value, vs.length = n * 2 ∧ ∀ ty, (Builtin.clear_ #[34] ty #[.slice (some ⟨r, o, none⟩) n c]).run Try.prog w = .ok (.tuple #[]) (w.setCells r o vs) := by
  have hv : ∀ w, (zeroValue 79).run Try.prog w = .ok (.agg #[.slice none 0 0, .slice none 0 0]) w := fun w => by kernel_rfl
  have ht : Try.prog.underlying 34 = some (.slice 79) := by kernel_rfl
  have hlen : (Builtin.zeroCells #[Value.slice none 0 0, .slice none 0 0] n).size = n * 2 := by simp [Builtin.zeroCells]; try omega
  have hone : ∀ v ∈ (Builtin.zeroCells #[Value.slice none 0 0, .slice none 0 0] n).toList, v.oneCell' = true := by
    intro v hv
    simp [Builtin.zeroCells] at hv
    obtain ⟨j, hj, rfl⟩ := hv
    have : j % 2 = 0 ∨ j % 2 = 1 := by omega
    rcases this with h | h <;> simp [h] <;> rfl
  have hst := run_storeCells_cells (P := Try.prog) r o (Builtin.zeroCells #[Value.slice none 0 0, .slice none 0 0] n).toList 0 w (by simpa [hlen] using hc) (by simpa [hlen] using hf) hone
  simp only [Nat.add_zero] at hst
  refine ⟨(Builtin.zeroCells #[Value.slice none 0 0, .slice none 0 0] n).toList, by simpa using hlen, fun ty => ?_⟩
  obtain ⟨m, rfl⟩ : ∃ m, n = m + 1 := ⟨n - 1, by omega⟩
  simp [Builtin.clear_, run_underlying ht, hv, hst, Value.cells]
/-- what deleting comes to -/
def DelCTo (w : World) (base c : Nat) (A : Option Addr) (l : List CA) (e : Ending) (w' : World) : Prop := e = .returned (.slice A (fullC l).length c) ∧ OwnC 79 w' base (.slice A (fullC l).length c) (fullC l) ∧ Only (rowOf (.slice A 0 0)) w w'
set_option maxHeartbeats 4000000 in
theorem delcl_any {w : World} {base c : Nat} {A : Option Addr} {l : List CA} (h : OwnC 79 w base (.slice A l.length c) l) (hn : l.length ≤ 1000000) (hs : ∀ x ∈ l, x.sn.length ≤ 1000000) : Calls Try.prog 71 #[.slice A l.length c, emptV] w (DelCTo w base c A l) := by
  have H := Lib.hid h
  obtain ⟨-, hnc, -, hA⟩ := own_shape h
  have HI := Lib.hid (idxcl_any (c := c) (Reads.of_own h) rfl hn hnc hs)
  have HA := Lib.hid hA
  have HSL := Lib.hid hs
  obtain ⟨n, hnl⟩ : ∃ n, n = l.length := ⟨_, rfl⟩
  have HLEN := Lib.hid hnl.symm
  rw [← hnl] at HI hnc hn ⊢
  have H' : Hid (OwnC 79 w base (.slice A n c) l) := Lib.hid (by rw [hnl]; exact H.out)
  clear h hA hs hnl H
  unfold emptV at HI ⊢
  go_enter Try.func71, Try.ntmps71
  go_wp2_with fail
  refine HI.out.mono ?_
  rintro e w1 ⟨hb1, ⟨rfl, hall⟩ | ⟨k, xk, rfl, hkx, hks, hpre⟩⟩
  · have hfl := fullC_id hall
    have HF := Lib.hid hfl
    have HB1 := Lib.hid hb1
    clear hall hfl HI hb1
    go_wp2
    go_ret
    refine ⟨?_, ?_, Only.of_below HB1.out _⟩
    · rw [HF.out, HLEN.out]; rfl
    · rw [HF.out, HLEN.out]; exact OwnC.below H'.out HB1.out
  · have hkn : k < n := by have := HLEN.out; have := (List.getElem?_eq_some_iff.1 hkx).1; omega
    obtain ⟨r, rfl⟩ : ∃ r, A = some ⟨r, 0, none⟩ := by
      rcases HA.out with h | ⟨b, h, -⟩
      · subst h
        rcases H'.out.2 with ⟨_, e0⟩ | ⟨_, _, _, e, _⟩
        · have := HLEN.out; omega
        · cases e
      · exact ⟨b, h⟩
    have hd : ((k : Int) == -1) = false := by simp
    have hwk : IntKind.i64.wrap ((k : Int) + 1) = (k : Int) + 1 := by rw [IntKind.wrap_i64]; omega
    have hf0 : fullC (l.take (k + 1)) = l.take k := by
      rw [take_snocI hkx, fullC_snoc, fullC_id hpre, if_pos hks, List.append_nil]
    have HF0 := Lib.hid hf0
    have HB1 := Lib.hid hb1
    clear hpre hks hf0 hkx HI hb1
    go_wp2_with fail
    go_loopw [5, 6] (fun vi vj wr => ∃ (i j : Nat) (ys : List CA), i < j ∧ j ≤ n ∧ vi = .int .i64 i ∧ vj = .int .i64 j ∧ ys.length = n ∧ ys.take i = fullC (l.take j) ∧ ys.drop j = l.drop j ∧ (∀ x ∈ ys, x.sn.length ≤ 1000000) ∧ OwnC 79 wr base (.slice (some ⟨r, 0, none⟩) n c) ys ∧ Only [r] w wr) (fun _ vj _ => n - (intOf vj).toNat)
    case atStart => exact ⟨k, k + 1, l, by omega, by omega, rfl, by go_num, HLEN.out, HF0.out.symm, rfl, HSL.out, OwnC.below H'.out HB1.out, Only.of_below HB1.out _⟩
    case round =>
      obtain ⟨i, j, ys, hij, hj, rfl, rfl, hyl, hyt, hyd, hys, hrow, ho⟩ := hrel
      obtain ⟨wo, hwo⟩ : ∃ wo, wo = wr := ⟨_, rfl⟩
      subst hwo
      have HR := Lib.hid hrow
      have HY := Lib.hid (And.intro hyt (And.intro hyd (And.intro hyl hys)))
      have HO := Lib.hid ho
      have hrl := (World.ownsRow.lt hrow r rfl).2
      clear hrow hyt hyd ho hyl hys
      by_cases hlt : j < n
      · obtain ⟨x, hx⟩ : ∃ x, ys[j]? = some x := ⟨_, List.getElem?_eq_getElem (by rw [HY.out.2.2.1]; exact hlt)⟩
        have hxl : l[j]? = some x := by
          have := congrArg (fun l => l[0]?) HY.out.2.1
          simp only [List.getElem?_drop, Nat.add_zero] at this
          rw [← this]; exact hx
        have hown9 : wo.ownsRow base 79 2 (.slice (some ⟨r, 0, none⟩) n c) n (ys.flatMap CA.cells) := by have h9 := HR.out; unfold OwnC at h9; rw [HY.out.2.2.1] at h9; exact h9
        obtain ⟨ad, hade, -, hc0⟩ := flat2 (Reads.of_own hown9) hx
        clear hown9
        injection hade with hade
        subst hade
        have hc : ∀ m v, x.cells[m]? = some v → wo.cell? ((⟨r, j * 2, none⟩ : Addr).add m) = some v := fun m v hm => by
          have := hc0 m v hm
          rwa [add_zero_off] at this
        have hsm := HY.out.2.2.2 x (List.mem_of_getElem? hx)
        have htj : fullC (l.take (j + 1)) = fullC (l.take j) ++ (if x.sn = [] then [] else [x]) := by rw [take_snocI hxl, fullC_snoc]
        have hdj : ys.drop (j + 1) = l.drop (j + 1) := by
          have := congrArg (fun l => l.drop 1) HY.out.2.1
          simpa [List.drop_drop] using this
        have HT := Lib.hid (And.intro htj hdj)
        have HX := Lib.hid hx
        have hwj : IntKind.i64.wrap ((j : Int) + 1) = (j : Int) + 1 := by rw [IntKind.wrap_i64]; omega
        have hwi : IntKind.i64.wrap ((i : Int) + 1) = (i : Int) + 1 := by rw [IntKind.wrap_i64]; omega
        obtain ⟨wA, hwA⟩ : ∃ wA, wA = wo.alloc (.cells #[.slice x.S x.sn.length x.cs, .slice x.D x.dt.length x.cd] 79) := ⟨_, rfl⟩
        have hbA : Below wo.heap.size wo wA := by rw [hwA]; exact below_alloc wo _
        have KA : Blk wA wo.heap.size 79 #[.slice x.S x.sn.length x.cs, .slice x.D x.dt.length x.cd] := by rw [hwA]; exact Blk.new wo _ _
        have HN := Lib.hid (trim2_any wA x (by omega))
        have HWA := Lib.hid hwA
        have HBA := Lib.hid (And.intro hbA KA)
        clear htj hdj hx hxl hc0 hwA hbA KA
        go_upto_region 8 with (have _h := hc; refine wpList_load_scl rfl (.tmp 24) rfl _ rfl x hc ?_; clear _h hc)
        rw [← HWA.out]
        have KA := HBA.out.2
        go_wp2_with (have _h := KA; refine wpList_loadq rfl 79 (.tmp 7) rfl wo.heap.size [.slice x.S x.sn.length x.cs, .slice x.D x.dt.length x.cd] _ rfl KA Try.underlying79 rfl (by kernel_rfl) ?_; clear _h KA)
        refine HN.out.mono ?_
        rintro e2 w2 ⟨rfl, hb2⟩
        have hbel2 : Below wo.heap.size wo w2 := HBA.out.1.trans (hb2.mono HBA.out.1.size)
        have K2 := HBA.out.2.of (hb2.block _ HBA.out.2.lt)
        have HR2 := Lib.hid (OwnC.below HR.out hbel2)
        have HO2 := Lib.hid (HO.out.trans (Only.of_below hbel2 [r]) (Fresh.refl _ _))
        have HB2 := Lib.hid hbel2
        clear hb2 hbel2 HN HBA HWA
        by_cases he : x.sn = []
        · have hbb : decide (x.sn = []) = true := decide_eq_true he
          have HE := Lib.hid he
          generalize decide (x.sn = []) = bb at hbb ⊢
          subst hbb
          clear he
          go_wp2
          go_roundw
          case rel =>
            refine ⟨i, j + 1, ys, by omega, by omega, rfl, by go_num, HY.out.2.2.1, ?_, HT.out.2, HY.out.2.2.2, HR2.out, HO2.out⟩
            rw [HT.out.1, if_pos HE.out, List.append_nil]
            exact HY.out.1
          case measure => simp [intOf]; omega
        · have hbb : decide (x.sn = []) = false := decide_eq_false he
          have HE := Lib.hid he
          generalize decide (x.sn = []) = bb at hbb ⊢
          subst hbb
          clear he
          have hyl := HY.out.2.2.1
          have hst := OwnC.set HR2.out (k := i) (by omega) x
          have hth : w2.there r (i * 2) 2 := by
            rcases HR2.out.2 with ⟨h, _⟩ | ⟨g9, cap9, cur9, e9, _, hh9, hn9, _, hs9, _⟩
            · cases h
            · injection e9 with e9 _ _
              injection e9 with e9
              injection e9 with e9
              subst e9
              refine (show Blk w2 _ 79 cur9 from hh9).there ?_
              rw [hs9]
              omega
          have HST := Lib.hid (And.intro hst.1 hst.2.1)
          have HYL := Lib.hid hyl
          clear hst hyl
          go_wp2_with (first
            | (have _h := K2; refine wpList_loadq rfl 79 (.tmp 7) rfl wo.heap.size [.slice x.S x.sn.length x.cs, .slice x.D x.dt.length x.cd] _ rfl K2 Try.underlying79 rfl (by kernel_rfl) ?_; clear _h K2)
            | (have _h := hth; refine wpList_store_mid rfl 79 (.tmp 33) (.tmp 32) rfl r (i * 2) #[.slice x.S x.sn.length x.cs, .slice x.D x.dt.length x.cd] rfl rfl hth (by kernel_rfl) (by simp [Value.oneCell']) ?_; clear _h hth))
          go_roundw
          case rel =>
            have hyl := HYL.out
            refine ⟨i + 1, j + 1, ys.set i x, by omega, by omega, by go_num, by go_num, by simp [hyl], ?_, ?_, fun y hy => ?_, HST.out.1, HO2.out.grown HST.out.2 (fun k e => .inl (by injection e with e; simp [e]))⟩
            · rw [HT.out.1, if_neg HE.out, List.take_add_one, List.getElem?_set_self (by omega), List.take_set, List.set_eq_of_length_le (by simp; omega), HY.out.1]
              rfl
            · rw [← HT.out.2]
              apply List.ext_getElem?
              intro m
              simp only [List.getElem?_drop]
              rw [List.getElem?_set_ne (by omega)]
            · rcases List.mem_or_eq_of_mem_set hy with h | h
              · exact HY.out.2.2.2 y h
              · rw [h]; exact hsm
          case measure => simp [intOf]; omega
      · obtain rfl : j = n := by omega
        have hsl1 := run_tail_cl r j c i hij hnc wo
        have hcells : ∀ m, m < (j - i) * 2 → (wo.cell? ⟨r, i * 2 + m, none⟩).isSome = true ∧ wo.frozen? ⟨r, i * 2 + m, none⟩ = false := fun m hm => by
          refine ⟨?_, World.ownsRow.frozenAt (by have h9 := HR.out; unfold OwnC at h9; rw [HY.out.2.2.1] at h9; exact h9) (i * 2 + m)⟩
          rw [World.ownsRow.cellAt (by have h9 := HR.out; unfold OwnC at h9; rw [HY.out.2.2.1] at h9; exact h9) (i * 2 + m) (by omega)]
          have h8 := HR.out.1
          rw [HY.out.2.2.1] at h8
          rw [List.getElem?_eq_getElem (by omega)]
          rfl
        obtain ⟨vs, -, hclr⟩ := run_clear_cl wo r (i * 2) (j - i) (c - i) (by omega) (fun m hm => (hcells m hm).1) (fun m hm => (hcells m hm).2)
        obtain ⟨w5, hw5⟩ : ∃ w5, w5 = wo.setCells r (i * 2) vs := ⟨_, rfl⟩
        have hown5 := own_prefix (n := j) (by have h9 := HR.out; unfold OwnC at h9; rw [HY.out.2.2.1] at h9; exact h9) (i := i) (by omega) vs
        rw [← hw5, ← flat_take ys i (by have := HY.out.2.2.1; omega)] at hown5
        have ho5 : Only [r] w w5 := by rw [hw5]; exact HO.out.grown (setCells_grown r _ (i * 2) wo).1 (fun k e => .inl (by injection e with e; simp [e]))
        have hres : fullC l = ys.take i := by
          have := HY.out.1
          have e : l.take j = l := List.take_of_length_le (by rw [HLEN.out]; exact Nat.le_refl _)
          rw [e] at this
          exact this.symm
        have hil : (ys.take i).length = i := by simp; have := HY.out.2.2.1; omega
        have hsl2 := run_head_cl r j c i (by omega) w5
        have HFIN : Hid (DelCTo w base c (some ⟨r, 0, none⟩) l (.returned (.slice (some ⟨r, 0, none⟩) i c)) w5) := Lib.hid (by
          unfold DelCTo
          rw [hres, hil]
          refine ⟨rfl, ?_, ho5.mono (fun k hk => by simp at hk; subst hk; simp [rowOf, Value.ownBlock])⟩
          unfold OwnC
          rw [hil]
          exact hown5)
        have hclr2 : ∀ ty, (Builtin.clear_ #[34] ty #[.slice (some ⟨r, i * 2, none⟩) (j - i) (c - i)]).run Try.prog wo = .ok (.tuple #[]) w5 := fun ty => by rw [hw5]; exact hclr ty
        clear hclr hw5 hown5 ho5 hres hil hcells HR HY HO HF0
        go_wp2
        go_ret
        exact HFIN.out
end Go.Proofs.Ytjepfeagbiceoaa
