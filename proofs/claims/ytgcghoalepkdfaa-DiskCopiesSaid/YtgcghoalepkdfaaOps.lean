/-
  A script of acts, as cells: what long answers of it. No condition.
-/
import Derived.Test.YtgcghoalepkdfaaAlive
namespace Go.Proofs.Ytgcghoalepkdfaa
open Go.RowKit
set_option linter.unusedSimpArgs false
set_option linter.unusedVariables false
/-- an act: its kind, its number, its byte, what is kept -/
structure OpV where
  kind : Int
  n : Int
  b : Nat
  A : Option Addr
  c : Nat
  keep : List Bool
def OpV.kv (o : OpV) : Value := .slice o.A o.keep.length o.c
def OpV.cs (o : OpV) : List Value := [.int .i64 o.kind, .int .i64 o.n, .int .u8 o.b, o.kv]
def Script (w : World) (B : Nat) (A : Option Addr) (m : Nat) (os : List OpV) : Prop :=
  Reads w B 4 A m (os.flatMap OpV.cs) ∧ ∀ o ∈ os, o.b < 256 ∧ Reads w B 1 o.A o.keep.length (flags o.keep)
theorem Script.len {w : World} {B : Nat} {A : Option Addr} {m : Nat} {os : List OpV} (h : Script w B A m os) : os.length = m := by
  have h1 := h.1.1
  have h2 : (os.flatMap OpV.cs).length = os.length * 4 := by
    clear h1 h
    induction os with
    | nil => rfl
    | cons o l ih => rw [List.flatMap_cons, List.length_append, ih]; simp [OpV.cs]; omega
  omega
theorem ops_at : ∀ (os : List OpV) (k : Nat) (o : OpV), os[k]? = some o → ∀ j, j < 4 → (os.flatMap OpV.cs)[k * 4 + j]? = o.cs[j]?
  | [], k, o, h, _, _ => by simp at h
  | a :: l, 0, o, h, j, hj => by
    simp at h
    subst h
    rw [List.flatMap_cons, List.getElem?_append_left (by simp [OpV.cs]; omega)]
    simp
  | a :: l, k + 1, o, h, j, hj => by
    rw [List.flatMap_cons, List.getElem?_append_right (by simp [OpV.cs]; omega)]
    have := ops_at l k o (by simpa using h) j hj
    rw [show (k + 1) * 4 + j - a.cs.length = k * 4 + j by simp [OpV.cs]; omega]
    exact this
theorem Script.below {w w' : World} {B : Nat} {A : Option Addr} {m : Nat} {os : List OpV} (h : Script w B A m os) (hb : Below B w w') : Script w' B A m os :=
  ⟨h.1.below hb, fun o ho => ⟨(h.2 o ho).1, (h.2 o ho).2.below hb⟩⟩
theorem Script.at_ {w : World} {B : Nat} {A : Option Addr} {m k : Nat} {os : List OpV} (h : Script w B A m os) (hk : k < m) : ∃ ad o, A = some ad ∧ ad.block < B ∧ os[k]? = some o ∧
    w.cell? (ad.add (k * 4)) = some (.int .i64 o.kind) ∧ w.cell? ((ad.add (k * 4)).add 1) = some (.int .i64 o.n) ∧ w.cell? ((ad.add (k * 4)).add 2) = some (.int .u8 o.b) ∧ w.cell? ((ad.add (k * 4)).add 3) = some o.kv ∧ o.b < 256 ∧ Reads w B 1 o.A o.keep.length (flags o.keep) := by
  have hl := h.len
  obtain ⟨ad, rfl, hb, hc⟩ := h.1.2 (by omega)
  have ho : os[k]? = some os[k] := List.getElem?_eq_getElem (by omega)
  have hh := h.2 _ (List.getElem_mem (show k < os.length by omega))
  refine ⟨ad, os[k], rfl, hb, ho, ?_, ?_, ?_, ?_, hh.1, hh.2⟩
  · exact hc (k * 4) _ (by rw [show k * 4 = k * 4 + 0 by omega, ops_at os k _ ho 0 (by omega)]; rfl)
  · rw [add_of_add]; exact hc (k * 4 + 1) _ (by rw [ops_at os k _ ho 1 (by omega)]; rfl)
  · rw [add_of_add]; exact hc (k * 4 + 2) _ (by rw [ops_at os k _ ho 2 (by omega)]; rfl)
  · rw [add_of_add]; exact hc (k * 4 + 3) _ (by rw [ops_at os k _ ho 3 (by omega)]; rfl)
theorem take_snoc_any {α : Type} {l : List α} {k : Nat} {x : α} (h : l[k]? = some x) : l.take (k + 1) = l.take k ++ [x] := by
  rw [List.take_add_one, h]; rfl
theorem run_loadVar_at {P : Program} (w : World) (p : Addr) (ty : TypeId) (cs : List Value) (d : TypeDesc) (hc : ∀ j v, cs[j]? = some v → w.cell? (p.add j) = some v)
    (hu : P.underlying ty = some d) (hd : d.isRow = true) (hi : (P.info? ty).map (·.size) = some cs.length) :
    (loadVar ty p).run P w = .ok (.agg cs.toArray) w := by
  have hl : (loadCells p cs.length).run P w = .ok cs.toArray w := run_loadCells_list (P := P) w p cs hc
  cases hq : P.info? ty with
  | none => simp [hq] at hi
  | some i =>
    have hs : i.size = cs.length := by simpa [hq] using hi
    have hagg : (isAgg ty).run P w = .ok true w := by
      unfold isAgg
      rw [Sem.run_bind, run_underlying hu w]
      cases d <;> simp_all
    simp [loadVar, Sem.run_bind, hagg, sizeOf, typeInfo, hq, hs, hl]
theorem wpList_load_at {P : Program} {ops : Array Oper} {rest : List Oper} {op : Oper} {a : Act} {w : World} {Q : Exit → Act → World → Prop} (hgd : op.guard = none) (ty : TypeId) (x : Operand) (ho : op.op = .load ty x)
    (p : Addr) (hx : a.eval x = .pointer (some p)) (cs : List Value) (d : TypeDesc) (hc : ∀ j v, cs[j]? = some v → w.cell? (p.add j) = some v)
    (hu : P.underlying ty = some d) (hd : d.isRow = true) (hi : (P.info? ty).map (·.size) = some cs.length)
    (h : wpList P ops Q rest (a.put op.dst (.agg cs.toArray)) w) : wpList P ops Q (op :: rest) a w :=
  wpList_plain hgd fun _ hK => by
    unfold Oper.wp execOp
    simp only [ho, hx, Instr.loadAt, Instr.sureAddr, Sem.run_bind, Sem.run_pure, Result.andThen_ok, run_loadVar_at w p ty cs d hc hu hd hi]
    exact hK _ _ h
theorem op_zero (w : World) : (zeroValue 40).run Try.prog w = .ok (.agg #[.int .i64 0, .int .i64 0, .int .u8 0, .slice none 0 0]) w := by kernel_rfl
theorem op_size : (Try.prog.info? 40).map (·.size) = some 4 := by kernel_rfl
theorem OpV.one (o : OpV) : ∀ u ∈ o.cs, u.oneCell' = true := by
  intro u hu
  simp [OpV.cs, OpV.kv] at hu
  rcases hu with rfl | rfl | rfl | rfl <;> rfl
/-- the cells of the k-th act -/
theorem Script.get {w : World} {B : Nat} {A : Option Addr} {m k : Nat} {os : List OpV} (h : Script w B A m os) (hk : k < m) : ∃ ad o, A = some ad ∧ ad.block < B ∧ os[k]? = some o ∧
    (∀ j v, o.cs[j]? = some v → w.cell? ((ad.add (k * 4)).add j) = some v) ∧ o.b < 256 ∧ Reads w B 1 o.A o.keep.length (flags o.keep) := by
  have hl := h.len
  obtain ⟨ad, rfl, hb, hc⟩ := h.1.2 (by omega)
  have ho : os[k]? = some os[k] := List.getElem?_eq_getElem (by omega)
  have hh := h.2 _ (List.getElem_mem (show k < os.length by omega))
  refine ⟨ad, os[k], rfl, hb, ho, fun j v hv => ?_, hh.1, hh.2⟩
  have hj : j < 4 := by
    rcases Nat.lt_or_ge j 4 with h' | h'
    · exact h'
    · rw [List.getElem?_eq_none (by simp [OpV.cs]; omega)] at hv; cases hv
  rw [add_of_add]
  exact hc _ _ (by rw [ops_at os k _ ho j hj]; exact hv)
theorem long_any (A : Option Addr) (m c : Nat) (os : List OpV) (w : World) (h : Script w w.heap.size A m os) (hm : m ≤ 9223372036854775807) (hk : ∀ o ∈ os, o.keep.length ≤ 9223372036854775807) :
    Calls Try.prog 10 #[.slice A m c] w fun e w' => ∃ r, e = .returned (.bool r) ∧ Below w.heap.size w w' ∧ (r = false → m ≤ 81 ∧ ∀ o ∈ os, o.keep.length ≤ 200) := by
  have hz := op_zero
  have hl := h.len
  have hK := Lib.hid hk
  have H := Lib.hid h
  clear h hk
  go_enter Try.func10, Try.ntmps10
  go_wp2
  go_loopw [7] (fun i wr => ∃ k : Nat, k ≤ m ∧ k ≤ 81 ∧ i = .int .i64 k ∧ Below w.heap.size w wr ∧ ∀ o ∈ os.take k, o.keep.length ≤ 200) (fun i _ => m - (intOf i).toNat)
  case atStart => exact ⟨0, by omega, by omega, rfl, Below.refl _ _, by simp⟩
  case round =>
    obtain ⟨k, hk, hk2, rfl, hb, hall⟩ := hrel
    by_cases hlt : k < m
    · obtain ⟨ad, o, rfl, hadb, ho, hc, -, -⟩ := (H.out.below hb).get hlt
      have Ho := Lib.hid ho
      have Hall := Lib.hid hall
      have hos : o.keep.length ≤ 9223372036854775807 := hK.out o (List.mem_of_getElem? ho)
      clear hall ho
      have hu := Try.underlying40
      have hi : (Try.prog.info? 40).map (·.size) = some o.cs.length := op_size
      have B0 := Blk.new wr 40 o.cs.toArray
      have b3 : (wr.alloc (.cells o.cs.toArray 40)).cell? ⟨wr.heap.size, 3, none⟩ = some (.slice o.A o.keep.length o.c) := by rw [B0.cell]; rfl
      by_cases h80 : k ≤ 80
      · by_cases h200 : o.keep.length ≤ 200
        · have hd1 : decide (80 < (k : Int)) = false := by simp; omega
          have hd2 : decide (200 < (o.keep.length : Int)) = false := by simp; omega
          go_wp2_with (first
            | (refine wpList_load_at rfl 40 (.tmp 10) rfl _ rfl o.cs _ hc hu rfl hi ?_)
            | (refine wpList_store_newN rfl 40 (.tmp 4) (.tmp 11) rfl wr.heap.size rfl o.cs _ rfl rfl hi rfl o.one ?_))
          go_roundw
          case rel =>
            refine ⟨k + 1, by omega, by omega, by go_num, hb.alloc hb.size _, fun o' ho' => ?_⟩
            rw [take_snoc_any Ho.out] at ho'
            rcases List.mem_append.1 ho' with h' | h'
            · exact Hall.out o' h'
            · obtain rfl := List.mem_singleton.1 h'
              exact h200
          case measure => simp [intOf]; omega
        · have hd1 : decide (80 < (k : Int)) = false := by simp; omega
          have hd2 : decide (200 < (o.keep.length : Int)) = true := by simp; omega
          go_wp2_with (first
            | (refine wpList_load_at rfl 40 (.tmp 10) rfl _ rfl o.cs _ hc hu rfl hi ?_)
            | (refine wpList_store_newN rfl 40 (.tmp 4) (.tmp 11) rfl wr.heap.size rfl o.cs _ rfl rfl hi rfl o.one ?_))
          go_ret
          exact ⟨true, rfl, hb.alloc hb.size _, by simp⟩
      · have hd1 : decide (80 < (k : Int)) = true := by simp; omega
        go_wp2_with (first
          | (refine wpList_load_at rfl 40 (.tmp 10) rfl _ rfl o.cs _ hc hu rfl hi ?_)
          | (refine wpList_store_newN rfl 40 (.tmp 4) (.tmp 11) rfl wr.heap.size rfl o.cs _ rfl rfl hi rfl o.one ?_))
        go_ret
        exact ⟨true, rfl, hb.alloc hb.size _, by simp⟩
    · go_wp2
      go_ret
      exact ⟨false, rfl, hb, fun _ => ⟨by omega, fun o ho => hall o (by rw [List.take_of_length_le (by omega)]; exact ho)⟩⟩
end Go.Proofs.Ytgcghoalepkdfaa
