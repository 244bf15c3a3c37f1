/-
  A script of acts on a journal, as it lies in memory; which is too large to be played. No condition but the sizes that a machine sets.
-/
import Derived.Test.YtpklcmocjimcpaaDoorZj
import Derived.Test.YtpklcmocjimcpaaDoorJrowC
namespace Go.Proofs.YtpklcmocjimcpaaDoor
open Go.RowKit
set_option maxRecDepth 100000
set_option linter.unusedSimpArgs false
set_option linter.unusedVariables false
structure JOpV where
  kind : Int
  n : Int
  A : Option Addr
  c : Nat
  b : List Nat
  A2 : Option Addr
  c2 : Nat
  l : List Bool
def JOpV.cs (v : JOpV) : List Value := [.int .i64 v.kind, .int .i64 v.n, .slice v.A v.b.length v.c, .slice v.A2 v.l.length v.c2]
structure JOpV.At (v : JOpV) (w : World) (B : Nat) : Prop where
  b : Bytes w B v.A v.b.length v.b
  l : Reads w B 1 v.A2 v.l.length (flags v.l)
theorem JOpV.At.below {v : JOpV} {w w' : World} {B : Nat} (h : v.At w B) (hb : Below B w w') : v.At w' B := ⟨h.b.below hb, h.l.below hb⟩
theorem jops_at : ∀ (os : List JOpV) (k : Nat) (o : JOpV), os[k]? = some o → ∀ j, j < 4 → (os.flatMap JOpV.cs)[k * 4 + j]? = o.cs[j]?
  | [], k, o, h, _, _ => by simp at h
  | a :: l, 0, o, h, j, hj => by
    simp at h
    subst h
    rw [List.flatMap_cons, List.getElem?_append_left (by simp [JOpV.cs]; omega)]
    simp
  | a :: l, k + 1, o, h, j, hj => by
    rw [List.flatMap_cons, List.getElem?_append_right (by simp [JOpV.cs]; omega)]
    have := jops_at l k o (by simpa using h) j hj
    rw [show (k + 1) * 4 + j - a.cs.length = k * 4 + j by simp [JOpV.cs]; omega]
    exact this
theorem jops_len (os : List JOpV) : (os.flatMap JOpV.cs).length = os.length * 4 := by
  induction os with
  | nil => rfl
  | cons o l ih => rw [List.flatMap_cons, List.length_append, ih]; simp [JOpV.cs]; omega
def JCells (w : World) (B : Nat) (A : Option Addr) (m : Nat) (os : List JOpV) : Prop := Reads w B 4 A m (os.flatMap JOpV.cs)
theorem JCells.len {w : World} {B m : Nat} {A : Option Addr} {os : List JOpV} (h : JCells w B A m os) : os.length = m := by
  have h1 := h.1
  rw [jops_len] at h1
  omega
theorem JCells.get {w : World} {B m k : Nat} {A : Option Addr} {os : List JOpV} (h : JCells w B A m os) (hk : k < m) : ∃ ad o, A = some ad ∧ os[k]? = some o ∧ ∀ j v, o.cs[j]? = some v → w.cell? ((ad.add (k * 4)).add j) = some v := by
  have hl := h.len
  obtain ⟨ad, rfl, hb, hc⟩ := h.2 (by omega)
  have ho : os[k]? = some os[k] := List.getElem?_eq_getElem (by omega)
  refine ⟨ad, os[k], rfl, ho, fun j v hv => ?_⟩
  have hj : j < 4 := by
    rcases Nat.lt_or_ge j 4 with h' | h'
    · exact h'
    · rw [List.getElem?_eq_none (by simp [JOpV.cs]; omega)] at hv; cases hv
  rw [add_of_add]
  exact hc _ _ (by rw [jops_at os k _ ho j hj]; exact hv)
theorem jop_size : (Tryd.prog.info? 38).map (·.size) = some 4 := by kernel_rfl
theorem jop_zero (w : World) : (zeroValue 38).run Tryd.prog w = .ok (.agg #[.int .i64 0, .int .i64 0, .slice none 0 0, .slice none 0 0]) w := by kernel_rfl
theorem JOpV.one (o : JOpV) : ∀ u ∈ o.cs, u.oneCell' = true := by
  intro u hu
  simp [JOpV.cs] at hu
  rcases hu with rfl | rfl | rfl | rfl <;> rfl
theorem jlarge_any (A : Option Addr) (m c : Nat) (os : List JOpV) (B : Nat) (w : World) (h : JCells w B A m os) (hBw : B ≤ w.heap.size) (hm : m ≤ 9223372036854775807) (hk : ∀ o ∈ os, o.b.length ≤ 9223372036854775807 ∧ o.l.length ≤ 9223372036854775807) :
    Calls Tryd.prog 8 #[.slice A m c] w fun e w' => ∃ r, e = .returned (.bool r) ∧ Below w.heap.size w w' ∧ (r = false → m ≤ 41 ∧ ∀ o ∈ os, o.b.length ≤ 600 ∧ o.l.length ≤ 100) := by
  have hz := jop_zero
  have hl := h.len
  have hK := Lib.hid hk
  have H := Lib.hid h
  clear h hk
  go_enter Tryd.func8, Tryd.ntmps8
  go_wp2
  go_loopw [7] (fun i wr => ∃ k : Nat, k ≤ m ∧ k ≤ 41 ∧ i = .int .i64 k ∧ Below w.heap.size w wr ∧ ∀ o ∈ os.take k, o.b.length ≤ 600 ∧ o.l.length ≤ 100) (fun i _ => m - (intOf i).toNat)
  case atStart => exact ⟨0, by omega, by omega, rfl, Below.refl _ _, by simp⟩
  case round =>
    obtain ⟨k, hk, hk2, rfl, hb, hall⟩ := hrel
    by_cases hlt : k < m
    · obtain ⟨ad, o, rfl, ho, hc⟩ := (show JCells wr B A m os from Reads.below H.out (hb.mono hBw)).get hlt
      have Ho := Lib.hid ho
      have Hall := Lib.hid hall
      have hos := hK.out o (List.mem_of_getElem? ho)
      have hos1 := hos.1
      have hos2 := hos.2
      clear hall ho hos
      have hu := Tryd.underlying38
      have hi : (Tryd.prog.info? 38).map (·.size) = some o.cs.length := jop_size
      have B0 := Blk.new wr 38 o.cs.toArray
      have b2 : (wr.alloc (.cells o.cs.toArray 38)).cell? ⟨wr.heap.size, 2, none⟩ = some (.slice o.A o.b.length o.c) := by rw [B0.cell]; rfl
      have b3 : (wr.alloc (.cells o.cs.toArray 38)).cell? ⟨wr.heap.size, 3, none⟩ = some (.slice o.A2 o.l.length o.c2) := by rw [B0.cell]; rfl
      by_cases h40 : k ≤ 40
      · have hd1 : decide (40 < (k : Int)) = false := decide_eq_false (by omega)
        by_cases h600 : o.b.length ≤ 600
        · have hd2 : decide (600 < (o.b.length : Int)) = false := decide_eq_false (by omega)
          by_cases h100 : o.l.length ≤ 100
          · have hd3 : decide (100 < (o.l.length : Int)) = false := decide_eq_false (by omega)
            go_wp2_with (first
              | (refine wpList_load_at rfl 38 (.tmp 10) rfl _ rfl o.cs _ hc hu rfl hi ?_)
              | (refine wpList_store_newN rfl 38 (.tmp 4) (.tmp 11) rfl wr.heap.size rfl o.cs _ rfl rfl hi rfl o.one ?_))
            go_roundw
            case rel =>
              refine ⟨k + 1, by omega, by omega, by go_num, hb.alloc hb.size _, fun o' ho' => ?_⟩
              rw [take_snoc_any Ho.out] at ho'
              rcases List.mem_append.1 ho' with h' | h'
              · exact Hall.out o' h'
              · obtain rfl := List.mem_singleton.1 h'
                exact ⟨h600, h100⟩
            case measure => simp [intOf]; omega
          · have hd3 : decide (100 < (o.l.length : Int)) = true := decide_eq_true (by omega)
            go_wp2_with (first
              | (refine wpList_load_at rfl 38 (.tmp 10) rfl _ rfl o.cs _ hc hu rfl hi ?_)
              | (refine wpList_store_newN rfl 38 (.tmp 4) (.tmp 11) rfl wr.heap.size rfl o.cs _ rfl rfl hi rfl o.one ?_))
            go_ret
            exact ⟨true, rfl, hb.alloc hb.size _, by simp⟩
        · have hd2 : decide (600 < (o.b.length : Int)) = true := decide_eq_true (by omega)
          go_wp2_with (first
            | (refine wpList_load_at rfl 38 (.tmp 10) rfl _ rfl o.cs _ hc hu rfl hi ?_)
            | (refine wpList_store_newN rfl 38 (.tmp 4) (.tmp 11) rfl wr.heap.size rfl o.cs _ rfl rfl hi rfl o.one ?_))
          go_ret
          exact ⟨true, rfl, hb.alloc hb.size _, by simp⟩
      · have hd1 : decide (40 < (k : Int)) = true := decide_eq_true (by omega)
        go_wp2_with (first
          | (refine wpList_load_at rfl 38 (.tmp 10) rfl _ rfl o.cs _ hc hu rfl hi ?_)
          | (refine wpList_store_newN rfl 38 (.tmp 4) (.tmp 11) rfl wr.heap.size rfl o.cs _ rfl rfl hi rfl o.one ?_))
        go_ret
        exact ⟨true, rfl, hb.alloc hb.size _, by simp⟩
    · go_wp2
      go_ret
      exact ⟨false, rfl, hb, fun _ => ⟨by omega, fun o ho => hall o (by rw [List.take_of_length_le (by omega)]; exact ho)⟩⟩
end Go.Proofs.YtpklcmocjimcpaaDoor
