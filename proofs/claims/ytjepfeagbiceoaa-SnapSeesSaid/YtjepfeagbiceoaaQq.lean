/-
  Numbers, or clones, are deleted from a row of the call's own. Conditions: the row reads as it is said to.
-/
import Derived.Test.YtjepfeagbiceoaaQp
namespace Go.Proofs.Ytjepfeagbiceoaa
open Go.RowKit Go.BigFrame
set_option linter.unusedSimpArgs false
set_option linter.unusedVariables false
set_option maxRecDepth 100000
/-- the beginning of a row, where what is behind it is written over -/
theorem own_prefix {w : World} {base size n c r : Nat} {e : TypeId} {xs : List Value} (h : w.ownsRow base e size (.slice (some ⟨r, 0, none⟩) n c) n xs) {i : Nat} (hi : i ≤ n) (vs : List Value) :
    (w.setCells r (i * size) vs).ownsRow base e size (.slice (some ⟨r, 0, none⟩) i c) i (xs.take (i * size)) := by
  rcases h.2 with ⟨h', _⟩ | ⟨g, cap, cur, hv, hb, hh, h1, h2, h3, h4⟩
  · cases h'
  · injection hv with e1 e2 e3
    injection e1 with e1
    injection e1 with e1
    subst e1 e3
    have hB : Blk w r e cur := hh
    obtain ⟨cur', hB', hs'⟩ := Blk.setCells_ vs (i * size) hB
    have him : i * size ≤ n * size := Nat.mul_le_mul_right _ hi
    have hnc : n * size ≤ c * size := Nat.mul_le_mul_right _ h1
    refine ⟨by rw [List.length_take, h.1]; omega, .inr ⟨r, c, cur', rfl, hb, hB', by omega, h2, by rw [hs', h3], ?_⟩⟩
    apply List.ext_getElem?
    intro j
    rw [List.getElem?_take, List.getElem?_take]
    by_cases hj : j < i * size
    · rw [if_pos hj, if_pos hj, ← h4, List.getElem?_take, if_pos (by omega)]
      have a1 := hB'.cell j
      have a2 := hB.cell j
      have a3 := World.cell?_setCells_out r vs (i * size) w ⟨r, j, none⟩ (fun _ _ => .inl hj)
      rw [Array.getElem?_toList, Array.getElem?_toList, ← a1, ← a2]
      exact a3
    · rw [if_neg hj, if_neg hj]
theorem trim1_any {w : World} {ps : Nat} {s : Int} (K : Blk w ps 3 #[.int .i64 s]) (x : Int) : Calls Try.prog 70 #[.int .i64 x, .pointer (some ⟨ps, 0, none⟩)] w fun e w' => e = .returned (.bool (x == s)) ∧ w = w' := by
  have c0 : w.cell? ⟨ps, 0, none⟩ = some (.int .i64 s) := K.cell 0
  clear K
  go_enter Try.func70, Try.ntmps70
  go_wp2
  go_ret
  exact ⟨rfl, rfl⟩
def trimV (ps : Nat) : Value := .func (.func 70) #[] #[.pointer (some ⟨ps, 0, none⟩)]
def IdxTo (w : World) (l : List Int) (s : Int) (e : Ending) (w' : World) : Prop := w = w' ∧ ((e = .returned (.int .i64 (-1)) ∧ ∀ x ∈ l, x ≠ s) ∨ ∃ k : Nat, e = .returned (.int .i64 k) ∧ k < l.length ∧ l[k]? = some s ∧ ∀ x ∈ l.take k, x ≠ s)
set_option maxHeartbeats 2000000 in
theorem idxint_any {w : World} {B n c ps : Nat} {A : Option Addr} {l : List Int} {s : Int} (h : Ints w B A n l) (K : Blk w ps 3 #[.int .i64 s]) (hn : n ≤ 1000000) : Calls Try.prog 98 #[.slice A n c, trimV ps] w (IdxTo w l s) := by
  have H := Lib.hid h
  have HK := Lib.hid K
  have HL := Lib.hid h.len
  clear h K
  go_enter Try.func98, Try.ntmps98
  unfold trimV
  go_wp2
  go_loopw [8] (fun i wr => ∃ k : Nat, k ≤ n ∧ i = .int .i64 k ∧ (∀ x ∈ l.take k, x ≠ s) ∧ wr = w) (fun i _ => n - (intOf i).toNat)
  case atStart => exact ⟨0, by omega, rfl, by simp, rfl⟩
  case round =>
    obtain ⟨k, hk, rfl, hx, rfl⟩ := hrel
    have HX := Lib.hid hx
    clear hx
    by_cases hlt : k < n
    · have hwk : IntKind.i64.wrap ((k : Int) + 1) = (k : Int) + 1 := by rw [IntKind.wrap_i64]; omega
      obtain ⟨ad, y, rfl, hy, hc⟩ := H.out.at_ hlt
      have HY := Lib.hid hy
      clear hy
      have HT := Lib.hid (trim1_any HK.out y)
      go_wp2_with fail
      refine HT.out.mono ?_
      rintro e w' ⟨rfl, rfl⟩
      by_cases he : y = s
      · have hb : (y == s) = true := beq_iff_eq.2 he
        go_wp2
        go_ret
        exact ⟨rfl, .inr ⟨k, rfl, by rw [HL.out]; omega, by rw [HY.out, he], HX.out⟩⟩
      · have hb : (y == s) = false := beq_eq_false_iff_ne.2 he
        go_wp2
        go_roundw
        case rel =>
          refine ⟨k + 1, by omega, by go_num, ?_, by first | rfl | trivial⟩
          rw [take_snocI HY.out]
          intro x hx
          rcases List.mem_append.1 hx with h | h
          · exact HX.out x h
          · simp at h; subst h; exact he
        case measure => simp [intOf]; omega
    · obtain rfl : k = n := by omega
      go_wp2
      go_ret
      refine ⟨rfl, .inl ⟨rfl, ?_⟩⟩
      have := HX.out
      rwa [List.take_of_length_le (by rw [HL.out]; omega)] at this
def noI (s : Int) (l : List Int) : List Int := l.filter fun x => decide (x ≠ s)
theorem noI_id {s : Int} {l : List Int} (h : ∀ x ∈ l, x ≠ s) : noI s l = l := List.filter_eq_self.2 fun x hx => by simpa using h x hx
theorem noI_snoc (s x : Int) (l : List Int) : noI s (l ++ [x]) = noI s l ++ (if x = s then [] else [x]) := by
  unfold noI
  rw [List.filter_append]
  by_cases h : x = s <;> simp [h]
theorem i64s_take (l : List Int) (k : Nat) : i64s (l.take k) = (i64s l).take k := by simp [i64s, List.map_take]
theorem i64s_set (l : List Int) (k : Nat) (x : Int) : i64s (l.set k x) = (i64s l).set k (.int .i64 x) := by simp [i64s, List.map_set]
theorem run_tail_int (r n c i : Nat) (h : i < n) (hc : n ≤ c) (w : World) : (Instr.slice 26 (.slice (some ⟨r, 0, none⟩) n c) (some (.int .i64 (i : Int))) none none).run Try.prog w = .ok (.slice (some ⟨r, i, none⟩) (n - i) (c - i)) w := by
  have hsz : ∀ w, (sizeOf (Try.prog.elem 26)).run Try.prog w = .ok 1 w := fun w => by kernel_rfl
  rw [run_slice_l w 26 (some ⟨r, 0, none⟩) n c (by kernel_rfl) .i64 (i : Int) (by omega) (by omega), hsz]
  simp only [Result.andThen, sliced, Int.toNat_natCast]
  rw [if_neg (by omega)]
  by_cases hz : i = 0 <;> simp [Addr.add, hz]
theorem run_head_int (r n c i : Nat) (h : i ≤ c) (w : World) : (Instr.slice 26 (.slice (some ⟨r, 0, none⟩) n c) none (some (.int .i64 (i : Int))) none).run Try.prog w = .ok (.slice (some ⟨r, 0, none⟩) i c) w := by
  have hsz : ∀ w, (sizeOf (Try.prog.elem 26)).run Try.prog w = .ok 1 w := fun w => by kernel_rfl
  rw [run_slice_h w 26 (some ⟨r, 0, none⟩) n c (by kernel_rfl) .i64 (i : Int) (by omega) (by omega), hsz]
  simp [Result.andThen, sliced, Addr.add]
/-- what deleting comes to -/
def DelTo (w : World) (base c : Nat) (A : Option Addr) (l : List Int) (s : Int) (e : Ending) (w' : World) : Prop := e = .returned (.slice A (noI s l).length c) ∧ OwnI w' base (.slice A (noI s l).length c) (noI s l).length (noI s l) ∧ Only (rowOf (.slice A 0 0)) w w'
set_option maxHeartbeats 4000000 in
theorem delint_any {w : World} {base n c ps : Nat} {A : Option Addr} {l : List Int} {s : Int} (h : OwnI w base (.slice A n c) n l) (K : Blk w ps 3 #[.int .i64 s]) (hp : ps ∉ rowOf (.slice A 0 0)) (hn : n ≤ 1000000) : Calls Try.prog 69 #[.slice A n c, trimV ps] w (DelTo w base c A l s) := by
  have H := Lib.hid h
  have HK := Lib.hid K
  have hlen : l.length = n := by have := h.1; rw [i64s_length] at this; omega
  have HLEN := Lib.hid hlen
  obtain ⟨-, hnc, -, hA⟩ := own_shape h
  have HI := Lib.hid (idxint_any (c := c) h.ints K hn)
  have HP := Lib.hid hp
  have HA := Lib.hid hA
  clear h K hp hlen hA
  unfold trimV at HI ⊢
  go_enter Try.func69, Try.ntmps69
  go_wp2_with fail
  refine HI.out.mono ?_
  rintro e w1 ⟨rfl, ⟨rfl, hall⟩ | ⟨k, rfl, hkl, hks, hpre⟩⟩
  · have hfl := noI_id hall
    have HF := Lib.hid hfl
    clear hall hfl HI
    go_wp2
    go_ret
    refine ⟨?_, ?_, Only.refl _ _⟩
    · rw [HF.out, HLEN.out]; rfl
    · rw [HF.out, HLEN.out]; exact H.out
  · have hkn : k < n := by have := HLEN.out; omega
    obtain ⟨r, rfl⟩ : ∃ r, A = some ⟨r, 0, none⟩ := by
      rcases HA.out with h | ⟨b, h, -⟩
      · subst h
        rcases H.out.2 with ⟨_, e0⟩ | ⟨_, _, _, e, _⟩
        · omega
        · cases e
      · exact ⟨b, h⟩
    have hd : ((k : Int) == -1) = false := by simp
    have hwk : IntKind.i64.wrap ((k : Int) + 1) = (k : Int) + 1 := by rw [IntKind.wrap_i64]; omega
    have hf0 : noI s (l.take (k + 1)) = l.take k := by
      rw [take_snocI hks, noI_snoc, noI_id hpre]
      simp
    have HF0 := Lib.hid hf0
    clear hpre hks hf0 hkl HI
    go_wp2_with fail
    go_loopw [5, 6] (fun vi vj wr => ∃ (i j : Nat) (ys : List Int), i < j ∧ j ≤ n ∧ vi = .int .i64 i ∧ vj = .int .i64 j ∧ ys.length = n ∧ ys.take i = noI s (l.take j) ∧ ys.drop j = l.drop j ∧ OwnI wr base (.slice (some ⟨r, 0, none⟩) n c) n ys ∧ Only [r] w wr) (fun _ vj _ => n - (intOf vj).toNat)
    case atStart => exact ⟨k, k + 1, l, by omega, by omega, rfl, by go_num, HLEN.out, HF0.out.symm, rfl, H.out, Only.refl _ _⟩
    case round =>
      obtain ⟨i, j, ys, hij, hj, rfl, rfl, hyl, hyt, hyd, hrow, ho⟩ := hrel
      obtain ⟨wo, hwo⟩ : ∃ wo, wo = wr := ⟨_, rfl⟩
      subst hwo
      have HR := Lib.hid hrow
      have HY := Lib.hid (And.intro hyt (And.intro hyd hyl))
      have HO := Lib.hid ho
      have hK2 : Blk wo ps 3 #[.int .i64 s] := HK.out.only ho (fun hm => HP.out (by simp at hm; subst hm; simp [rowOf, Value.ownBlock]))
      have HK2 := Lib.hid hK2
      have hrl := (World.ownsRow.lt hrow r rfl).2
      clear hrow hyt hyd ho hyl hK2
      by_cases hlt : j < n
      · obtain ⟨x, hx⟩ : ∃ x, ys[j]? = some x := ⟨_, List.getElem?_eq_getElem (by rw [HY.out.2.2]; exact hlt)⟩
        have hxl : l[j]? = some x := by
          have := congrArg (fun l => l[0]?) HY.out.2.1
          simp only [List.getElem?_drop, Nat.add_zero] at this
          rw [← this]; exact hx
        have cj : wo.cell? ⟨r, j, none⟩ = some (.int .i64 x) := by
          rw [World.ownsRow.cellAt HR.out j (by omega)]
          simp [i64s, hx]
        have ci : ∃ u, wo.cell? ⟨r, i, none⟩ = some u := by
          rw [World.ownsRow.cellAt HR.out i (by omega)]
          exact ⟨_, List.getElem?_eq_getElem (by rw [i64s_length, HY.out.2.2]; omega)⟩
        obtain ⟨ui, ci⟩ := ci
        have fi : wo.frozen? ⟨r, i, none⟩ = false := World.ownsRow.frozenAt HR.out i
        have htj : noI s (l.take (j + 1)) = noI s (l.take j) ++ (if x = s then [] else [x]) := by rw [take_snocI hxl, noI_snoc]
        have hdj : ys.drop (j + 1) = l.drop (j + 1) := by
          have := congrArg (fun l => l.drop 1) HY.out.2.1
          simpa [List.drop_drop] using this
        have HT := Lib.hid (And.intro htj hdj)
        have HX := Lib.hid hx
        have hwj : IntKind.i64.wrap ((j : Int) + 1) = (j : Int) + 1 := by rw [IntKind.wrap_i64]; omega
        have hwi : IntKind.i64.wrap ((i : Int) + 1) = (i : Int) + 1 := by rw [IntKind.wrap_i64]; omega
        have HN := Lib.hid (trim1_any HK2.out x)
        clear htj hdj hx hxl
        go_wp2_with fail
        refine HN.out.mono ?_
        rintro e2 w2 ⟨rfl, rfl⟩
        by_cases he : x = s
        · have hb : (x == s) = true := beq_iff_eq.2 he
          have HE := Lib.hid he
          clear he
          go_wp2
          go_roundw
          case rel =>
            refine ⟨i, j + 1, ys, by omega, by omega, rfl, by go_num, HY.out.2.2, ?_, HT.out.2, HR.out, HO.out⟩
            rw [HT.out.1, if_pos HE.out, List.append_nil]
            exact HY.out.1
          case measure => simp [intOf]; omega
        · have hb : (x == s) = false := beq_eq_false_iff_ne.2 he
          have HE := Lib.hid he
          clear he
          go_wp2
          go_roundw
          case rel =>
            have hst := (World.ownsRow.stored HR.out i (.int .i64 x)).1
            rw [← i64s_set] at hst
            have hyl := HY.out.2.2
            refine ⟨i + 1, j + 1, ys.set i x, by omega, by omega, by go_num, by go_num, by simp [hyl], ?_, ?_, hst, HO.out.setCell (.inl (by simp)) _⟩
            · rw [HT.out.1, if_neg HE.out, List.take_add_one, List.getElem?_set_self (by omega), List.take_set, List.set_eq_of_length_le (by simp; omega), HY.out.1]
              rfl
            · rw [← HT.out.2]
              apply List.ext_getElem?
              intro m
              simp only [List.getElem?_drop]
              rw [List.getElem?_set_ne (by omega)]
          case measure => simp [intOf]; omega
      · obtain rfl : j = n := by omega
        have hsl1 := run_tail_int r j c i hij hnc wo
        have hz : ∀ w, (zeroValue 3).run Try.prog w = .ok (.int .i64 0) w := fun w => by kernel_rfl
        have hclr := fun ty => Lib.run_clear_slice (P := Try.prog) wo 26 3 ty (.int .i64 0) Try.underlying26 hz rfl rfl r i (j - i) (c - i) (by omega) (fun m hm => by
          rw [World.ownsRow.cellAt HR.out (i + m) (by omega)]
          rw [List.getElem?_eq_getElem (by rw [i64s_length, HY.out.2.2]; omega)]
          rfl) (fun m hm => World.ownsRow.frozenAt HR.out (i + m))
        obtain ⟨w5, hw5⟩ : ∃ w5, w5 = wo.setCells r i (List.replicate (j - i) (.int .i64 0)) := ⟨_, rfl⟩
        have hown5 := own_prefix HR.out (i := i) (by omega) (List.replicate (j - i) (.int .i64 0))
        rw [Nat.mul_one, ← hw5, ← i64s_take] at hown5
        have ho5 : Only [r] w w5 := by rw [hw5]; exact HO.out.grown (setCells_grown r _ i wo).1 (fun k e => .inl (by injection e with e; simp [e]))
        have hres : noI s l = ys.take i := by
          have := HY.out.1
          have e : l.take j = l := List.take_of_length_le (by rw [HLEN.out]; exact Nat.le_refl _)
          rw [e] at this
          exact this.symm
        have hil : (ys.take i).length = i := by simp; have := HY.out.2.2; omega
        have hsl2 := run_head_int r j c i (by omega) w5
        have HFIN : Hid (DelTo w base c (some ⟨r, 0, none⟩) l s (.returned (.slice (some ⟨r, 0, none⟩) i c)) w5) := Lib.hid (by
          unfold DelTo
          rw [hres, hil]
          exact ⟨rfl, hown5, ho5.mono (fun k hk => by simp at hk; subst hk; simp [rowOf, Value.ownBlock])⟩)
        have hclr2 : ∀ ty, (Builtin.clear_ #[26] ty #[.slice (some ⟨r, i, none⟩) (j - i) (c - i)]).run Try.prog wo = .ok (.tuple #[]) w5 := fun ty => by rw [hw5]; exact hclr ty
        clear hclr hw5 hown5 ho5 hres hil hz HR HY HO HF0
        go_wp2
        go_ret
        exact HFIN.out
end Go.Proofs.Ytjepfeagbiceoaa
