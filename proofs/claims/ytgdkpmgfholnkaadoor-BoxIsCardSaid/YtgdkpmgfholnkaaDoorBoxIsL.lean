/-
  The law BoxIs: how its argument is opened; its walk. Conditions: the package's table holds its sixteen numbers.
-/
import Derived.Test.YtgdkpmgfholnkaaDoorBoxIsW
import Derived.Test.YtgdkpmgfholnkaaDoorOpenB
namespace Go.Proofs.YtgdkpmgfholnkaaDoor
open Go.ChangeShapes Go.WideShapes Go.ChangeAt Go.RowKit
set_option linter.unusedSimpArgs false
set_option linter.unusedVariables false
structure AskV where
  s : Sec
  k : Int
  g : Int
  n : Int
def AskV.cs (x : AskV) : List Value := x.s.cs ++ [.int .i64 x.k, .int .i64 x.g, .int .i64 x.n]
theorem take_one_at {α : Type} {l : List α} {i : Nat} {x : α} (h : l[i]? = some x) : (l.drop i).take 1 = [x] := by
  have hi : i < l.length := (List.getElem?_eq_some_iff.1 h).1
  rw [List.drop_eq_getElem_cons hi, (List.getElem?_eq_some_iff.1 h).2]
  rfl
theorem open_asked {H : Type} {enc : TypeId × Value → H} {W : World} {base : Nat} {v : Value} {d : DataW H} {p : List MemPlace} (hval : Value.okWide Tryd.prog W .any base 50 v)
    (h : DataW.Trod enc Tryd.prog W 0 (fun _ => true) true 50 v d p) : ∃ x : AskV, v = .agg x.cs.toArray := by
  obtain ⟨cs, rfl, hsz⟩ := okWide_struct Tryd.underlying50 hval
  obtain ⟨fuel, hf⟩ := h
  obtain ⟨ys, n', hn', hy, hlen, hyl, hff⟩ := DataW.trod_struct Tryd.underlying50 hf
  have h4 : Tryd.prog.cellsOf 50 = 131 := by kernel_rfl
  rw [h4] at hsz
  obtain ⟨L, rfl⟩ : ∃ L : List Value, cs = L.toArray := ⟨cs.toList, by simp⟩
  have hL : L.length = 131 := by simpa using hsz
  have e1 : Tryd.prog.cellsOf 3 = 1 := by kernel_rfl
  have e8 : Tryd.prog.cellsOf 5 = 1 := by kernel_rfl
  have eS : Tryd.prog.cellsOf 33 = 128 := by kernel_rfl
  have hy4 : ys.length = 4 := hyl
  match ys, hy4 with
  | [y0, y1, y2, y3], _ =>
    have g0 : DataW.trod enc Tryd.prog W 0 (fun _ => true) true n' 33 (L.take 128) = some y0 := by
      have := hff 0 _ rfl
      simpa [eS, Value.cells] using this
    have g1 : DataW.trod enc Tryd.prog W 0 (fun _ => true) true n' 3 ((L.drop 128).take 1) = some y1 := by
      have := hff 1 _ rfl
      simpa [e1, Value.cells] using this
    have g2 : DataW.trod enc Tryd.prog W 0 (fun _ => true) true n' 3 ((L.drop 129).take 1) = some y2 := by
      have := hff 2 _ rfl
      simpa [e1, Value.cells] using this
    have g3 : DataW.trod enc Tryd.prog W 0 (fun _ => true) true n' 3 ((L.drop 130).take 1) = some y3 := by
      have := hff 3 _ rfl
      simpa [e1, Value.cells] using this
    rw [take_one_at (List.getElem?_eq_getElem (show 128 < L.length by omega))] at g1
    rw [take_one_at (List.getElem?_eq_getElem (show 129 < L.length by omega))] at g2
    rw [take_one_at (List.getElem?_eq_getElem (show 130 < L.length by omega))] at g3
    obtain ⟨n1, q1, _, w1⟩ := DataW.trod_int Tryd.underlying3 g1
    obtain ⟨n2, q2, _, w2⟩ := DataW.trod_int Tryd.underlying3 g2
    obtain ⟨n3, q3, _, w3⟩ := DataW.trod_int Tryd.underlying3 g3
    simp only [List.cons.injEq, and_true] at q1 q2 q3
    obtain ⟨xs, m, _, _, _, hxl, hxs⟩ := DataW.trod_array Tryd.underlying33 g0
    rw [e8] at hxs
    have hex : ∀ i, i < 128 → ∃ b : Nat, b < 256 ∧ L[i]? = some (.int .u8 (b : Int)) := by
      intro i hi
      have h1 := hxs i hi
      have hi' : (L.take 128)[i]? = some (L[i]'(by omega)) := by rw [List.getElem?_take, if_pos hi, List.getElem?_eq_getElem]
      rw [Nat.mul_one, take_one_at hi', List.getElem?_eq_getElem (show i < xs.length by omega)] at h1
      obtain ⟨z, qz, _, wz⟩ := DataW.trod_int Tryd.underlying5 h1
      simp only [List.cons.injEq, and_true] at qz
      simp [Lit.wf, IntKind.min, IntKind.max, IntKind.bits, IntKind.signed] at wz
      exact ⟨z.toNat, by omega, by rw [List.getElem?_eq_getElem (by omega), qz]; congr 2; omega⟩
    obtain ⟨f, hf'⟩ := Go.Deep.choose_lt hex
    refine ⟨⟨⟨(List.range 128).map f, by simp, fun b hb => ?_⟩, n1, n2, n3⟩, ?_⟩
    · obtain ⟨i, hi, rfl⟩ := List.mem_map.1 hb
      exact (hf' i (List.mem_range.1 hi)).1
    · congr 2
      apply List.ext_getElem?
      intro i
      unfold AskV.cs
      by_cases hi : i < 128
      · rw [List.getElem?_append_left (by simpa [Sec.cs, u8s] using hi), (hf' i hi).2]
        simp [Sec.cs, u8s, u8, hi]
      · rw [List.getElem?_append_right (by simp [Sec.cs, u8s]; omega)]
        have hl : (Sec.cs ⟨(List.range 128).map f, by simp, fun b hb => by obtain ⟨i, hi, rfl⟩ := List.mem_map.1 hb; exact (hf' i (List.mem_range.1 hi)).1⟩).length = 128 := Sec.cs_len _
        rw [hl]
        by_cases h0 : i = 128
        · subst h0; rw [List.getElem?_eq_getElem (by omega), q1]; rfl
        by_cases h1 : i = 129
        · subst h1; rw [List.getElem?_eq_getElem (by omega), q2]; rfl
        by_cases h2 : i = 130
        · subst h2; rw [List.getElem?_eq_getElem (by omega), q3]; rfl
        rw [List.getElem?_eq_none (by omega), List.getElem?_eq_none (by simp; omega)]
set_option maxRecDepth 100000 in
set_option maxHeartbeats 1000000 in
theorem boxIs_walk (x : AskV) {w : World} (hT : Tab w) : Calls Tryd.prog 5 #[.agg x.cs.toArray] w fun e w' => e = .returned (.bool true) ∧ Below w.heap.size w w' := by
  obtain ⟨s, k, g, n⟩ := x
  have hlen : s.cs.length = 128 := s.cs_len
  have K1 := Blk.new w 50 (AskV.cs ⟨s, k, g, n⟩).toArray
  have hat : ∀ j u, (AskV.cs ⟨s, k, g, n⟩)[j]? = some u → (w.alloc (.cells (AskV.cs ⟨s, k, g, n⟩).toArray 50)).cell? ⟨w.heap.size, j, none⟩ = some u := fun j u hu => by rw [K1.cell]; simpa using hu
  have c1 := hat 128 (.int .i64 k) (by show (s.cs ++ [Value.int .i64 k, .int .i64 g, .int .i64 n])[128]? = _; rw [List.getElem?_append_right (by omega), hlen]; rfl)
  have c2 := hat 129 (.int .i64 g) (by show (s.cs ++ [Value.int .i64 k, .int .i64 g, .int .i64 n])[129]? = _; rw [List.getElem?_append_right (by omega), hlen]; rfl)
  have c3 := hat 130 (.int .i64 n) (by show (s.cs ++ [Value.int .i64 k, .int .i64 g, .int .i64 n])[130]? = _; rw [List.getElem?_append_right (by omega), hlen]; rfl)
  have hr : World.rangeAt (w.alloc (.cells (AskV.cs ⟨s, k, g, n⟩).toArray 50)) w.heap.size 0 s.cs := fun j u hu => by
    rw [Nat.zero_add]
    refine hat j u ?_
    unfold AskV.cs
    rw [List.getElem?_append_left (List.getElem?_eq_some_iff.1 hu).1]
    exact hu
  have husec := Tryd.underlying33
  have hisec := s.info
  have b1 := below_alloc w (.cells (AskV.cs ⟨s, k, g, n⟩).toArray 50)
  have hT1 := Lib.hid (hT.below b1)
  have B1 := Lib.hid b1
  clear hT b1 K1 hat hlen
  generalize hq : AskV.cs ⟨s, k, g, n⟩ = q at *
  clear hq
  go_enter Tryd.func5, Tryd.ntmps5
  go_wp2_with (refine wpList_load_mid rfl 33 (.tmp 3) rfl w.heap.size 0 rfl s.cs _ hr husec rfl hisec ?_)
  refine (opens_any s k g n _ hT1.out).mono ?_
  rintro e w2 ⟨rfl, b2⟩
  have HB := Lib.hid (B1.out.trans (b2.mono B1.out.size))
  clear b2 c1 c2 c3 hr
  go_wp2
  go_ret
  exact ⟨rfl, HB.out⟩
end Go.Proofs.YtgdkpmgfholnkaaDoor
