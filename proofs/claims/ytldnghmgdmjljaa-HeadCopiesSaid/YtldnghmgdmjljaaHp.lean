/-
  How a head that came in is opened. No condition.
-/
import Derived.Test.YtldnghmgdmjljaaHb
import Derived.Test.YtldnghmgdmjljaaKop
import Derived.Deep.Strs
namespace Go.Proofs.Ytldnghmgdmjljaa
open Go.ChangeShapes Go.WideShapes Go.ChangeAt Go.RowKit Go.Deep
set_option maxRecDepth 100000
set_option linter.unusedSimpArgs false
set_option linter.unusedVariables false
theorem choose_lt_x {α : Type} [Inhabited α] {n : Nat} {P : Nat → α → Prop} (h : ∀ i, i < n → ∃ x, P i x) : ∃ f : Nat → α, ∀ i, i < n → P i (f i) :=
  ⟨fun i => if hi : i < n then (h i hi).choose else default, fun i hi => by simp only [hi, dif_pos]; exact (h i hi).choose_spec⟩
theorem str_form (s : ByteArray) : strOf (s.data.toList.map UInt8.toNat) = s := by
  have := strOf_data (s.data.toList.map UInt8.toNat)
  rw [List.map_map] at this
  have e : (UInt8.ofNat ∘ UInt8.toNat) = id := by funext x; simp
  rw [e, List.map_id] at this
  cases h : strOf (s.data.toList.map UInt8.toNat) with
  | mk d =>
    rw [h] at this
    cases s with
    | mk d' =>
      congr 1
      exact Array.toList_inj.1 this
theorem str_small (s : ByteArray) : ∀ b ∈ s.data.toList.map UInt8.toNat, b < 256 := by
  intro b hb
  obtain ⟨x, _, rfl⟩ := List.mem_map.1 hb
  exact x.toNat_lt
theorem str_len (s : ByteArray) : (s.data.toList.map UInt8.toNat).length = s.size := by rw [List.length_map, Array.length_toList]; rfl
theorem flat_len {α β : Type} {f : α → List β} {size : Nat} (hf : ∀ x, (f x).length = size) : ∀ l : List α, (l.flatMap f).length = l.length * size
  | [] => by simp
  | x :: l => by rw [List.flatMap_cons, List.length_append, hf, flat_len hf l, List.length_cons, Nat.add_mul]; omega
theorem strs_of {H : Type} {enc : TypeId × Value → H} {W : World} {n : Nat} {v : Value} {y : DataW H × List MemPlace} (h : DataW.trod enc Try.prog W 0 (fun _ => true) true n 60 [v] = some y) :
    ∃ (A : Option Addr) (c : Nat) (l : List (List Nat)), v = .slice A l.length c ∧ (l.length ≤ c ∧ c ≤ 9223372036854775807) ∧ Strs W W.heap.size A l.length l := by
  rcases open_strs Try.underlying60 Try.underlying9 (by kernel_rfl) h with ⟨hcs, _⟩ | ⟨a, len, cap, m, Sx, hcs, _, hl, hm, hmm, _, hcell⟩
  · exact ⟨none, 0, [], by simpa using hcs, ⟨by simp, by omega⟩, Reads.none_, fun c hc => by cases hc⟩
  · simp only [List.cons.injEq, and_true] at hcs
    simp only [if_true] at hmm
    unfold maxLen at hm
    refine ⟨some a, cap, (List.range len).map fun i => (Sx i).data.toList.map UInt8.toNat, by rw [hcs]; simp, ⟨by simpa using hl, by omega⟩, ⟨by simp [strs], fun hn => ⟨a, rfl, ?_, fun j u hu => ?_⟩⟩, fun c hc => ?_⟩
    · have := lt_of_cell (hcell 0 (by simp at hn; omega)).1
      rwa [block_of_add] at this
    · have hj : j < len := by
        rcases Nat.lt_or_ge j len with h | h
        · exact h
        · rw [List.getElem?_eq_none (by simp [strs]; omega)] at hu
          cases hu
      rw [(hcell j (by omega)).1, ← hu]
      simp [strs, hj, str_form]
    · obtain ⟨i, _, rfl⟩ := List.mem_map.1 hc
      exact str_small _
theorem take1 {cs : List Value} {j : Nat} (h : j < cs.length) : (cs.drop j).take 1 = [cs[j]'h] := by
  rw [List.drop_eq_getElem_cons h]
  rfl
theorem i64_of {n : Int} (w : (Lit.int .i64 n).wf = true) : I64 n := by
  simp [Lit.wf, IntKind.min, IntKind.max, IntKind.bits, IntKind.signed] at w
  exact ⟨by omega, by omega⟩
set_option maxRecDepth 100000 in
set_option maxHeartbeats 4000000 in
theorem marked_of {H : Type} {enc : TypeId × Value → H} {W : World} {n : Nat} {cs : List Value} {y : DataW H × List MemPlace} (h : DataW.trod enc Try.prog W 0 (fun _ => true) true n 25 cs = some y) (hl : cs.length = 3) :
    ∃ (p q : Bool) (M : Option Addr) (c : Nat) (l : List Nat), cs = [.bool p, .bool q, .slice M l.length c] ∧ (l.length ≤ c ∧ c ≤ 9223372036854775807) ∧ Bytes W W.heap.size M l.length l := by
  obtain ⟨ys, n', _, _, hlen, hyl, hf⟩ := DataW.trod_struct Try.underlying25 h
  have f0 : DataW.trod enc Try.prog W 0 (fun _ => true) true n' 4 (List.take (Try.prog.cellsOf 4) (List.drop 0 cs)) = ys[0]? := hf 0 _ rfl
  have f1 : DataW.trod enc Try.prog W 0 (fun _ => true) true n' 4 (List.take (Try.prog.cellsOf 4) (List.drop 1 cs)) = ys[1]? := hf 1 _ rfl
  have f2 : DataW.trod enc Try.prog W 0 (fun _ => true) true n' 23 (List.take (Try.prog.cellsOf 23) (List.drop 2 cs)) = ys[2]? := hf 2 _ rfl
  have c___uint8 : Try.prog.cellsOf 23 = 1 := by kernel_rfl
  rw [c___uint8] at f2
  have c_bool : Try.prog.cellsOf 4 = 1 := by kernel_rfl
  rw [c_bool] at f0 f1
  have g0 := f0.trans (List.getElem?_eq_getElem (by rw [hyl]; decide))
  have g1 := f1.trans (List.getElem?_eq_getElem (by rw [hyl]; decide))
  have g2 := f2.trans (List.getElem?_eq_getElem (by rw [hyl]; decide))
  rw [take1 (by omega)] at g0 g1 g2
  obtain ⟨p, e0, _⟩ := DataW.trod_bool Try.underlying4 g0
  obtain ⟨q, e1, _⟩ := DataW.trod_bool Try.underlying4 g1
  obtain ⟨M, m, c, l, e2, hc, hb⟩ := bytes_of g2
  have hl2 := hb.len
  subst hl2
  refine ⟨p, q, M, c, l, ?_, hc, hb⟩
  match cs, hl, e0, e1, e2 with
  | [a0, a1, a2], _, e0, e1, e2 =>
    simp at e0 e1 e2
    subst e0 e1 e2
    rfl
set_option maxRecDepth 100000 in
set_option maxHeartbeats 4000000 in
theorem link_of {H : Type} {enc : TypeId × Value → H} {W : World} {n : Nat} {cs : List Value} {y : DataW H × List MemPlace} (h : DataW.trod enc Try.prog W 0 (fun _ => true) true n 27 cs = some y) (hl : cs.length = 3) :
    ∃ (par : List Nat) (ps ov : Int), cs = [.string (strOf par), .int .i64 ps, .int .i64 ov] ∧ (∀ b ∈ par, b < 256) ∧ par.length ≤ 9223372036854775807 ∧ I64 ps ∧ I64 ov := by
  obtain ⟨ys, n', _, _, hlen, hyl, hf⟩ := DataW.trod_struct Try.underlying27 h
  have f0 : DataW.trod enc Try.prog W 0 (fun _ => true) true n' 9 (List.take (Try.prog.cellsOf 9) (List.drop 0 cs)) = ys[0]? := hf 0 _ rfl
  have f1 : DataW.trod enc Try.prog W 0 (fun _ => true) true n' 3 (List.take (Try.prog.cellsOf 3) (List.drop 1 cs)) = ys[1]? := hf 1 _ rfl
  have f2 : DataW.trod enc Try.prog W 0 (fun _ => true) true n' 3 (List.take (Try.prog.cellsOf 3) (List.drop 2 cs)) = ys[2]? := hf 2 _ rfl
  have c_int : Try.prog.cellsOf 3 = 1 := by kernel_rfl
  rw [c_int] at f1 f2
  have c_string : Try.prog.cellsOf 9 = 1 := by kernel_rfl
  rw [c_string] at f0
  have g0 := f0.trans (List.getElem?_eq_getElem (by rw [hyl]; decide))
  have g1 := f1.trans (List.getElem?_eq_getElem (by rw [hyl]; decide))
  have g2 := f2.trans (List.getElem?_eq_getElem (by rw [hyl]; decide))
  rw [take1 (by omega)] at g0 g1 g2
  obtain ⟨s, e0, _, w0⟩ := DataW.trod_string Try.underlying9 g0
  obtain ⟨n1, e1, _, w1⟩ := DataW.trod_int Try.underlying3 g1
  obtain ⟨n2, e2, _, w2⟩ := DataW.trod_int Try.underlying3 g2
  refine ⟨s.data.toList.map UInt8.toNat, n1, n2, ?_, str_small s, by rw [str_len]; unfold maxLen at w0; omega, i64_of w1, i64_of w2⟩
  rw [str_form]
  match cs, hl, e0, e1, e2 with
  | [a0, a1, a2], _, e0, e1, e2 =>
    simp at e0 e1 e2
    subst e0 e1 e2
    rfl
instance : Inhabited SA := ⟨⟨0, [], false, ⟨0, false, false, [], none, 0, [], 0, 0⟩, [], none, 0⟩⟩
set_option maxRecDepth 100000 in
set_option maxHeartbeats 4000000 in
theorem sa_of {H : Type} {enc : TypeId × Value → H} {W : World} {n : Nat} {cs : List Value} {y : DataW H × List MemPlace} (h : DataW.trod enc Try.prog W 0 (fun _ => true) true n 67 cs = some y) (hl : cs.length = 11) : ∃ s : SA, cs = s.dcells ∧ s.R W := by
  obtain ⟨ys, n', _, _, hlen, hyl, hf⟩ := DataW.trod_struct Try.underlying67 h
  have f0 : DataW.trod enc Try.prog W 0 (fun _ => true) true n' 3 (List.take (Try.prog.cellsOf 3) (List.drop 0 cs)) = ys[0]? := hf 0 _ rfl
  have f1 : DataW.trod enc Try.prog W 0 (fun _ => true) true n' 3 (List.take (Try.prog.cellsOf 3) (List.drop 1 cs)) = ys[1]? := hf 1 _ rfl
  have f2 : DataW.trod enc Try.prog W 0 (fun _ => true) true n' 9 (List.take (Try.prog.cellsOf 9) (List.drop 2 cs)) = ys[2]? := hf 2 _ rfl
  have f3 : DataW.trod enc Try.prog W 0 (fun _ => true) true n' 4 (List.take (Try.prog.cellsOf 4) (List.drop 3 cs)) = ys[3]? := hf 3 _ rfl
  have f4 : DataW.trod enc Try.prog W 0 (fun _ => true) true n' 25 (List.take (Try.prog.cellsOf 25) (List.drop 4 cs)) = ys[4]? := hf 4 _ rfl
  have f5 : DataW.trod enc Try.prog W 0 (fun _ => true) true n' 27 (List.take (Try.prog.cellsOf 27) (List.drop 7 cs)) = ys[5]? := hf 5 _ rfl
  have f6 : DataW.trod enc Try.prog W 0 (fun _ => true) true n' 60 (List.take (Try.prog.cellsOf 60) (List.drop 10 cs)) = ys[6]? := hf 6 _ rfl
  have c___string : Try.prog.cellsOf 60 = 1 := by kernel_rfl
  rw [c___string] at f6
  have c_bool : Try.prog.cellsOf 4 = 1 := by kernel_rfl
  rw [c_bool] at f3
  have c_int : Try.prog.cellsOf 3 = 1 := by kernel_rfl
  rw [c_int] at f0 f1
  have c_lamina_laminaref11_Link : Try.prog.cellsOf 27 = 3 := by kernel_rfl
  rw [c_lamina_laminaref11_Link] at f5
  have c_lamina_laminaref11_Marked : Try.prog.cellsOf 25 = 3 := by kernel_rfl
  rw [c_lamina_laminaref11_Marked] at f4
  have c_string : Try.prog.cellsOf 9 = 1 := by kernel_rfl
  rw [c_string] at f2
  have g0 := f0.trans (List.getElem?_eq_getElem (by rw [hyl]; decide))
  have g1 := f1.trans (List.getElem?_eq_getElem (by rw [hyl]; decide))
  have g2 := f2.trans (List.getElem?_eq_getElem (by rw [hyl]; decide))
  have g3 := f3.trans (List.getElem?_eq_getElem (by rw [hyl]; decide))
  have g4 := f4.trans (List.getElem?_eq_getElem (by rw [hyl]; decide))
  have g5 := f5.trans (List.getElem?_eq_getElem (by rw [hyl]; decide))
  have g6 := f6.trans (List.getElem?_eq_getElem (by rw [hyl]; decide))
  rw [take1 (by omega)] at g0 g1 g2 g3 g6
  obtain ⟨n0, e0, _, w0⟩ := DataW.trod_int Try.underlying3 g0
  obtain ⟨n1, e1, _, w1⟩ := DataW.trod_int Try.underlying3 g1
  obtain ⟨s2, e2, _, w2⟩ := DataW.trod_string Try.underlying9 g2
  obtain ⟨b3, e3, _⟩ := DataW.trod_bool Try.underlying4 g3
  obtain ⟨p, q, M, c, l, e4, hc4, hb4⟩ := marked_of g4 (by rw [List.length_take, List.length_drop, hl]; rfl)
  obtain ⟨par, ps, ov, e5, hp1, hp2, hp3, hp4⟩ := link_of g5 (by rw [List.length_take, List.length_drop, hl]; rfl)
  obtain ⟨C, cc, ch, e6, hc6, hb6⟩ := strs_of g6
  refine ⟨⟨n0, s2.data.toList.map UInt8.toNat, b3, ⟨n1, p, q, l, M, c, par, ps, ov⟩, ch, C, cc⟩, ?_, ⟨⟨hb4, hp1, i64_of w1, hp3, hp4, by simp only; omega, hp2, hc4.1⟩, hb6, str_small s2, i64_of w0, by simp only; omega, by simp only; rw [str_len]; unfold maxLen at w2; omega, hc6.1⟩⟩
  unfold SA.dcells
  simp only
  rw [str_form]
  match cs, hl, e0, e1, e2, e3, e4, e5, e6 with
  | [a0, a1, a2, a3, a4, a5, a6, a7, a8, a9, a10], _, e0, e1, e2, e3, e4, e5, e6 =>
    simp at e0 e1 e2 e3 e4 e5 e6
    obtain ⟨rfl, rfl, rfl⟩ := e4
    obtain ⟨rfl, rfl, rfl⟩ := e5
    subst e0 e1 e2 e3 e6
    rfl
set_option maxRecDepth 100000 in
theorem sas_of {H : Type} {enc : TypeId × Value → H} {W : World} {n : Nat} {v : Value} {y : DataW H × List MemPlace} (h : DataW.trod enc Try.prog W 0 (fun _ => true) true n 22 [v] = some y) :
    ∃ (A : Option Addr) (c : Nat) (l : List SA), v = .slice A l.length c ∧ (l.length ≤ c ∧ c ≤ 9223372036854775807) ∧ Reads W W.heap.size 11 A l.length (l.flatMap SA.dcells) ∧ ∀ s ∈ l, s.R W := by
  rcases open_slice Try.underlying22 h with ⟨hcs, _⟩ | ⟨a, len, cap, m, n', D, Pl, hcs, _, hl, hm, hmm, _, hr⟩
  · simp only [List.cons.injEq, and_true] at hcs
    subst hcs
    exact ⟨none, 0, [], rfl, ⟨by simp, by omega⟩, Reads.none_, fun s hs => by cases hs⟩
  · simp only [List.cons.injEq, and_true] at hcs
    subst hcs
    simp only [if_true] at hmm
    unfold maxLen at hm
    have c6 : Try.prog.cellsOf 67 = 11 := by kernel_rfl
    have hex : ∀ i, i < len → ∃ s : SA, (∀ j v, s.dcells[j]? = some v → W.cell? (a.add (i * 11 + j)) = some v) ∧ s.R W := by
      intro i hi
      obtain ⟨cs', hc, ht'⟩ := hr i (by omega)
      rw [c6] at hc
      obtain ⟨_, hcl, hat⟩ := World.cells?_some hc
      obtain ⟨s, rfl, hs⟩ := sa_of ht' (by omega)
      refine ⟨s, fun j v hj => ?_, hs⟩
      have hj6 : j < 11 := by have := (List.getElem?_eq_some_iff.1 hj).1; rwa [SA.dcells_len] at this
      have := hat j hj6
      rw [← Go.Deep.add_add, this, hj]
    obtain ⟨f, hf⟩ := choose_lt_x hex
    have hat : ∀ k, k < len → ((List.range len).map f)[k]? = some (f k) := fun k hk => by rw [List.getElem?_map, List.getElem?_range hk]; rfl
    have hfl : (((List.range len).map f).flatMap SA.dcells).length = len * 11 := by
      rw [flat_len SA.dcells_len]
      simp
    refine ⟨some a, cap, (List.range len).map f, by simp, ⟨by simpa using hl, by omega⟩, ⟨by simpa using hfl, fun hn => ⟨a, rfl, ?_, fun j u hu => ?_⟩⟩, fun s hs => ?_⟩
    · have := lt_of_cell ((hf 0 (by simpa using hn)).1 0 _ rfl)
      rwa [block_of_add] at this
    · have hj : j < len * 11 := by
        rcases Nat.lt_or_ge j (len * 11) with h | h
        · exact h
        · rw [List.getElem?_eq_none (by rw [hfl]; exact h)] at hu; cases hu
      have hk : j / 11 < len := by omega
      have h5 := flat_at SA.dcells 11 SA.dcells_len _ (j / 11) (j % 11) (f (j / 11)) (hat (j / 11) hk) (by omega)
      rw [show j / 11 * 11 + j % 11 = j by omega, hu] at h5
      have := (hf (j / 11) hk).1 (j % 11) u h5.symm
      rwa [show j / 11 * 11 + j % 11 = j by omega] at this
    · obtain ⟨i, hi, rfl⟩ := List.mem_map.1 hs
      exact (hf i (List.mem_range.1 hi)).2
set_option maxRecDepth 100000 in
set_option maxHeartbeats 4000000 in
theorem ha_of {H : Type} {enc : TypeId × Value → H} {W : World} {n : Nat} {cs : List Value} {y : DataW H × List MemPlace} (h : DataW.trod enc Try.prog W 0 (fun _ => true) true n 29 cs = some y) (hl : cs.length = 14) : ∃ a : HA, cs.toArray = a.cs ∧ a.R SA.dcells W := by
  obtain ⟨ys, n', _, _, hlen, hyl, hf⟩ := DataW.trod_struct Try.underlying29 h
  have f0 : DataW.trod enc Try.prog W 0 (fun _ => true) true n' 3 (List.take (Try.prog.cellsOf 3) (List.drop 0 cs)) = ys[0]? := hf 0 _ rfl
  have f1 : DataW.trod enc Try.prog W 0 (fun _ => true) true n' 3 (List.take (Try.prog.cellsOf 3) (List.drop 1 cs)) = ys[1]? := hf 1 _ rfl
  have f2 : DataW.trod enc Try.prog W 0 (fun _ => true) true n' 3 (List.take (Try.prog.cellsOf 3) (List.drop 2 cs)) = ys[2]? := hf 2 _ rfl
  have f3 : DataW.trod enc Try.prog W 0 (fun _ => true) true n' 3 (List.take (Try.prog.cellsOf 3) (List.drop 3 cs)) = ys[3]? := hf 3 _ rfl
  have f4 : DataW.trod enc Try.prog W 0 (fun _ => true) true n' 22 (List.take (Try.prog.cellsOf 22) (List.drop 4 cs)) = ys[4]? := hf 4 _ rfl
  have f5 : DataW.trod enc Try.prog W 0 (fun _ => true) true n' 25 (List.take (Try.prog.cellsOf 25) (List.drop 5 cs)) = ys[5]? := hf 5 _ rfl
  have f6 : DataW.trod enc Try.prog W 0 (fun _ => true) true n' 27 (List.take (Try.prog.cellsOf 27) (List.drop 8 cs)) = ys[6]? := hf 6 _ rfl
  have f7 : DataW.trod enc Try.prog W 0 (fun _ => true) true n' 3 (List.take (Try.prog.cellsOf 3) (List.drop 11 cs)) = ys[7]? := hf 7 _ rfl
  have f8 : DataW.trod enc Try.prog W 0 (fun _ => true) true n' 3 (List.take (Try.prog.cellsOf 3) (List.drop 12 cs)) = ys[8]? := hf 8 _ rfl
  have f9 : DataW.trod enc Try.prog W 0 (fun _ => true) true n' 3 (List.take (Try.prog.cellsOf 3) (List.drop 13 cs)) = ys[9]? := hf 9 _ rfl
  have c___laminaref11_Snap : Try.prog.cellsOf 22 = 1 := by kernel_rfl
  rw [c___laminaref11_Snap] at f4
  have c_int : Try.prog.cellsOf 3 = 1 := by kernel_rfl
  rw [c_int] at f0 f1 f2 f3 f7 f8 f9
  have c_lamina_laminaref11_Link : Try.prog.cellsOf 27 = 3 := by kernel_rfl
  rw [c_lamina_laminaref11_Link] at f6
  have c_lamina_laminaref11_Marked : Try.prog.cellsOf 25 = 3 := by kernel_rfl
  rw [c_lamina_laminaref11_Marked] at f5
  have g0 := f0.trans (List.getElem?_eq_getElem (by rw [hyl]; decide))
  have g1 := f1.trans (List.getElem?_eq_getElem (by rw [hyl]; decide))
  have g2 := f2.trans (List.getElem?_eq_getElem (by rw [hyl]; decide))
  have g3 := f3.trans (List.getElem?_eq_getElem (by rw [hyl]; decide))
  have g4 := f4.trans (List.getElem?_eq_getElem (by rw [hyl]; decide))
  have g5 := f5.trans (List.getElem?_eq_getElem (by rw [hyl]; decide))
  have g6 := f6.trans (List.getElem?_eq_getElem (by rw [hyl]; decide))
  have g7 := f7.trans (List.getElem?_eq_getElem (by rw [hyl]; decide))
  have g8 := f8.trans (List.getElem?_eq_getElem (by rw [hyl]; decide))
  have g9 := f9.trans (List.getElem?_eq_getElem (by rw [hyl]; decide))
  rw [take1 (by omega)] at g0 g1 g2 g3 g4 g7 g8 g9
  obtain ⟨n0, e0, _, w0⟩ := DataW.trod_int Try.underlying3 g0
  obtain ⟨n1, e1, _, w1⟩ := DataW.trod_int Try.underlying3 g1
  obtain ⟨n2, e2, _, w2⟩ := DataW.trod_int Try.underlying3 g2
  obtain ⟨n3, e3, _, w3⟩ := DataW.trod_int Try.underlying3 g3
  obtain ⟨S, sc, sn, e4, hc4, hr4, hs4⟩ := sas_of g4
  obtain ⟨p, q, M, c, l, e5, hc5, hb5⟩ := marked_of g5 (by rw [List.length_take, List.length_drop, hl]; rfl)
  obtain ⟨par, ps, ov, e6, hp1, hp2, hp3, hp4⟩ := link_of g6 (by rw [List.length_take, List.length_drop, hl]; rfl)
  obtain ⟨n7, e7, _, w7⟩ := DataW.trod_int Try.underlying3 g7
  obtain ⟨n8, e8, _, w8⟩ := DataW.trod_int Try.underlying3 g8
  obtain ⟨n9, e9, _, w9⟩ := DataW.trod_int Try.underlying3 g9
  refine ⟨⟨n0, n2, n3, S, sc, sn, ⟨n1, p, q, l, M, c, par, ps, ov⟩, n7, n8, n9⟩, ?_, ⟨⟨hb5, hp1, i64_of w1, hp3, hp4, by simp only; omega, hp2, hc5.1⟩, hr4, hs4, i64_of w0, i64_of w2, i64_of w3, i64_of w7, i64_of w8, i64_of w9, by simp only; omega, hc4.1⟩⟩
  match cs, hl, e0, e1, e2, e3, e4, e5, e6, e7, e8, e9 with
  | [a0, a1, a2, a3, a4, a5, a6, a7, a8, a9, a10, a11, a12, a13], _, e0, e1, e2, e3, e4, e5, e6, e7, e8, e9 =>
    simp at e0 e1 e2 e3 e4 e5 e6 e7 e8 e9
    obtain ⟨rfl, rfl, rfl⟩ := e5
    obtain ⟨rfl, rfl, rfl⟩ := e6
    subst e0 e1 e2 e3 e4 e7 e8 e9
    rfl
set_option maxRecDepth 100000 in
theorem open_ha {H : Type} {enc : TypeId × Value → H} {W : World} {base : Nat} {v : Value} {d : DataW H} {p : List MemPlace} (hval : Value.okWide Try.prog W .any base 29 v)
    (h : DataW.Trod enc Try.prog W 0 (fun _ => true) true 29 v d p) : ∃ x : HA, v = .agg x.cs ∧ x.R SA.dcells W := by
  obtain ⟨cs, rfl, hsz⟩ := okWide_struct Try.underlying29 hval
  obtain ⟨fuel, hf⟩ := h
  have h4 : Try.prog.cellsOf 29 = 14 := by kernel_rfl
  rw [h4] at hsz
  obtain ⟨l, rfl⟩ : ∃ l : List Value, cs = l.toArray := ⟨cs.toList, by simp⟩
  obtain ⟨s, e, hR⟩ := ha_of (cs := l) hf (by simpa using hsz)
  exact ⟨s, by rw [e], hR⟩
end Go.Proofs.Ytldnghmgdmjljaa
