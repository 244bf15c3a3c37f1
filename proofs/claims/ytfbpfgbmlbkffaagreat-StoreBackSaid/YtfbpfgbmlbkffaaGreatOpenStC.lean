/-
  How scripts of operations that came in are opened. No condition.
-/
import Derived.Test.YtfbpfgbmlbkffaaGreatZi
import Derived.Test.YtfbpfgbmlbkffaaGreatOpenSC
namespace Go.Proofs.YtfbpfgbmlbkffaaGreat
open Go.ChangeShapes Go.WideShapes Go.ChangeAt Go.RowKit Go.Deep
set_option linter.unusedSimpArgs false
set_option linter.unusedVariables false
instance : Inhabited SV := ⟨⟨⟨0, 0, 0, [], []⟩, none, 0⟩⟩
instance : Inhabited OpV := ⟨⟨[], none, 0, [], 0⟩⟩
theorem flat_len {α β : Type} {f : α → List β} {size : Nat} (hf : ∀ x, (f x).length = size) : ∀ l : List α, (l.flatMap f).length = l.length * size
  | [] => by simp
  | x :: l => by rw [List.flatMap_cons, List.length_append, hf, flat_len hf l, List.length_cons, Nat.add_mul]; omega
theorem str_form (s : ByteArray) : s = strOf (s.data.toList.map UInt8.toNat) := by
  apply ByteArray.ext
  apply Array.toList_inj.1
  rw [strOf_data_, List.map_map]
  conv => lhs; rw [← List.map_id s.data.toList]
  apply List.map_congr_left
  intro b _
  simp
theorem str_small (s : ByteArray) : Small (s.data.toList.map UInt8.toNat) := fun b hb => by
  obtain ⟨u, _, rfl⟩ := List.mem_map.1 hb
  exact u.toNat_lt
theorem getD_nat (zs : List Int) (i : Nat) (h : i < zs.length) (h0 : ∀ z ∈ zs, 0 ≤ z ∧ z ≤ 255) : ((((zs.map Int.toNat)[i]?).getD 0 : Nat) : Int) = zs.getD i 0 := by
  have := h0 _ (List.getElem_mem h)
  simp [h]
  omega
theorem bytes_cells {W : World} {a : Addr} {len cap : Nat} {zs : List Int} (hl : len ≤ cap) (hz : zs.length = cap) (hcell : ∀ i, i < cap → W.cell? (a.add i) = some (.int .u8 (zs.getD i 0)))
    (hw : ∀ n ∈ zs, (Lit.int .u8 n).wf = true) : Bytes W W.heap.size (some a) len ((zs.map Int.toNat).take len) := by
  have hb : ∀ z ∈ zs, 0 ≤ z ∧ z ≤ 255 := fun z hz' => by
    have := hw z hz'
    simp [Lit.wf, IntKind.min, IntKind.max, IntKind.bits, IntKind.signed] at this
    omega
  refine ⟨⟨by simp [u8s]; omega, fun hn => ⟨a, rfl, ?_, fun j u hu => ?_⟩⟩, ?_⟩
  · have := lt_of_cell_x (hcell 0 (by omega))
    rwa [block_of_add] at this
  · have hj : j < len := by
      rcases Nat.lt_or_ge j len with h | h
      · exact h
      · rw [List.getElem?_eq_none (by simp [u8s]; omega)] at hu
        cases hu
    rw [hcell j (by omega), ← hu]
    have := getD_nat zs j (by omega) hb
    simp [u8s, u8, hj, show j < zs.length by omega] at this ⊢
    omega
  · intro b hb'
    obtain ⟨z, hz', rfl⟩ := List.mem_map.1 (List.mem_of_mem_take hb')
    have := hb z hz'
    omega
theorem bytes_of {H : Type} {enc : TypeId × Value → H} {W : World} {n : Nat} {v : Value} {y : DataW H × List MemPlace} (h : DataW.trod enc Tryz.prog W 0 (fun _ => true) true n 22 [v] = some y) :
    ∃ (A : Option Addr) (m c : Nat) (l : List Nat), v = .slice A m c ∧ (m ≤ c ∧ c ≤ 9223372036854775807) ∧ Bytes W W.heap.size A m l := by
  rcases open_ints Tryz.underlying22 Tryz.underlying5 (by kernel_rfl) h with ⟨hcs, _⟩ | ⟨x, l, c, zs, hcs, _, hl, hm, hz, _, hcell, hwz⟩
  · exact ⟨none, 0, 0, [], by simpa using hcs, ⟨by omega, by omega⟩, Reads.none_, by simp⟩
  · simp only [List.cons.injEq, and_true] at hcs
    simp only [if_true] at hz
    unfold maxLen at hm
    exact ⟨_, _, _, _, hcs, ⟨by omega, by omega⟩, bytes_cells hl hz (fun i hi => hcell i (by omega)) hwz⟩
set_option maxRecDepth 100000 in
theorem steps_of {H : Type} {enc : TypeId × Value → H} {W : World} {n : Nat} {v : Value} {y : DataW H × List MemPlace} (h : DataW.trod enc Tryz.prog W 0 (fun _ => true) true n 47 [v] = some y) :
    ∃ (A : Option Addr) (c : Nat) (l : List SV), v = .slice A l.length c ∧ (l.length ≤ c ∧ c ≤ 9223372036854775807) ∧ StepsW W A l := by
  rcases open_slice_fields Tryz.underlying47 Tryz.underlying59 (by kernel_rfl) (by kernel_rfl) h with ⟨hcs, _⟩ | ⟨a, len, cap, m, D, Pl, hcs, _, hl, hm, hmm, _, hr⟩
  · simp only [List.cons.injEq, and_true] at hcs
    subst hcs
    exact ⟨none, 0, [], rfl, ⟨by simp, by omega⟩, ⟨Reads.none_, fun s hs => by cases hs⟩⟩
  · simp only [List.cons.injEq, and_true] at hcs
    subst hcs
    simp only [if_true] at hmm
    unfold maxLen at hm
    have hex : ∀ i, i < len → ∃ s : SV, (∀ j v, s.cs[j]? = some v → W.cell? (a.add (i * 5 + j)) = some v) ∧ SRaw W s := by
      intro i hi
      obtain ⟨ys, n', _, _, _, h3⟩ := hr i (by omega)
      obtain ⟨v0, y0, c0, _, t0⟩ := h3 0 _ rfl
      obtain ⟨v1, y1, c1, _, t1⟩ := h3 1 _ rfl
      obtain ⟨v2, y2, c2, _, t2⟩ := h3 2 _ rfl
      obtain ⟨v3, y3, c3, _, t3⟩ := h3 3 _ rfl
      obtain ⟨v4, y4, c4, _, t4⟩ := h3 4 _ rfl
      obtain ⟨n0, e0, _, w0⟩ := DataW.trod_int Tryz.underlying3 t0
      obtain ⟨n1, e1, _, w1⟩ := DataW.trod_int Tryz.underlying3 t1
      obtain ⟨n2, e2, _, w2⟩ := DataW.trod_int Tryz.underlying3 t2
      obtain ⟨s3, e3, _, w3⟩ := DataW.trod_string Tryz.underlying9 t3
      obtain ⟨A4, m4, c4', l4, rfl, hc4, hb4⟩ := bytes_of t4
      simp only [List.cons.injEq, and_true] at e0 e1 e2 e3
      subst e0 e1 e2 e3
      simp [Lit.wf, IntKind.min, IntKind.max, IntKind.bits, IntKind.signed] at w0 w1 w2
      have hl4 := hb4.len
      subst hl4
      refine ⟨⟨⟨n0, n1, n2, s3.data.toList.map UInt8.toNat, l4⟩, A4, c4'⟩, fun j v hj => ?_, ⟨hb4, str_small s3, by simp only; omega, by simp only; omega, by simp only; omega, by simp only; omega, ?_, by simp only; omega⟩⟩
      · match j, hj with
        | 0, hj => simp [SV.cs] at hj; subst hj; exact c0
        | 1, hj => simp [SV.cs] at hj; subst hj; exact c1
        | 2, hj => simp [SV.cs] at hj; subst hj; exact c2
        | 3, hj =>
          have hq := str_form s3
          simp only [SV.cs, List.getElem?_cons_succ, List.getElem?_cons_zero] at hj
          injection hj with hj
          subst hj
          rw [← hq]
          exact c3
        | 4, hj => simp [SV.cs] at hj; subst hj; exact c4
      · have hsz : s3.size ≤ maxLen := w3
        simp only [List.length_map]
        have : s3.data.toList.length = s3.size := by rw [Array.length_toList]; rfl
        unfold maxLen at hsz
        omega
    obtain ⟨f, hf⟩ := choose_lt_x hex
    have hat : ∀ k, k < len → ((List.range len).map f)[k]? = some (f k) := fun k hk => by rw [List.getElem?_map, List.getElem?_range hk]; rfl
    have hfl : (((List.range len).map f).flatMap SV.cs).length = len * 5 := by
      rw [flat_len SV.cs_len]
      simp
    refine ⟨some a, cap, (List.range len).map f, by simp, ⟨by simpa using hl, by omega⟩, ⟨⟨by simpa using hfl, fun hn => ⟨a, rfl, ?_, fun j u hu => ?_⟩⟩, fun s hs => ?_⟩⟩
    · have := lt_of_cell_x ((hf 0 (by simpa using hn)).1 0 _ rfl)
      rwa [block_of_add] at this
    · have hj : j < len * 5 := by
        rcases Nat.lt_or_ge j (len * 5) with h | h
        · exact h
        · rw [List.getElem?_eq_none (by rw [hfl]; exact h)] at hu; cases hu
      have hk : j / 5 < len := by omega
      have h5 := flat_at SV.cs 5 SV.cs_len _ (j / 5) (j % 5) (f (j / 5)) (hat (j / 5) hk) (by omega)
      rw [show j / 5 * 5 + j % 5 = j by omega, hu] at h5
      have := (hf (j / 5) hk).1 (j % 5) u h5.symm
      rwa [show j / 5 * 5 + j % 5 = j by omega] at this
    · obtain ⟨i, hi, rfl⟩ := List.mem_map.1 hs
      exact (hf i (List.mem_range.1 hi)).2
set_option maxRecDepth 100000 in
theorem opsv_of {H : Type} {enc : TypeId × Value → H} {W : World} {n : Nat} {v : Value} {y : DataW H × List MemPlace} (h : DataW.trod enc Tryz.prog W 0 (fun _ => true) true n 43 [v] = some y) :
    ∃ (A : Option Addr) (c : Nat) (l : List OpV), v = .slice A l.length c ∧ (l.length ≤ c ∧ c ≤ 9223372036854775807) ∧ OpsR W A l := by
  rcases open_slice_fields Tryz.underlying43 Tryz.underlying49 (by kernel_rfl) (by kernel_rfl) h with ⟨hcs, _⟩ | ⟨a, len, cap, m, D, Pl, hcs, _, hl, hm, hmm, _, hr⟩
  · simp only [List.cons.injEq, and_true] at hcs
    subst hcs
    exact ⟨none, 0, [], rfl, ⟨by simp, by omega⟩, ⟨Reads.none_, fun s hs => by cases hs⟩⟩
  · simp only [List.cons.injEq, and_true] at hcs
    subst hcs
    simp only [if_true] at hmm
    unfold maxLen at hm
    have hex : ∀ i, i < len → ∃ s : OpV, (∀ j v, s.cs[j]? = some v → W.cell? (a.add (i * 3 + j)) = some v) ∧ s.Ok W := by
      intro i hi
      obtain ⟨ys, n', _, _, _, h3⟩ := hr i (by omega)
      obtain ⟨v0, y0, c0, _, t0⟩ := h3 0 _ rfl
      obtain ⟨v1, y1, c1, _, t1⟩ := h3 1 _ rfl
      obtain ⟨v2, y2, c2, _, t2⟩ := h3 2 _ rfl
      obtain ⟨s0, e0, _, w0⟩ := DataW.trod_string Tryz.underlying9 t0
      obtain ⟨A1, c1', l1, rfl, hc1, hw1⟩ := steps_of t1
      obtain ⟨n2, e2, _, w2⟩ := DataW.trod_int Tryz.underlying3 t2
      simp only [List.cons.injEq, and_true] at e0 e2
      subst e0 e2
      refine ⟨⟨s0.data.toList.map UInt8.toNat, A1, c1', l1, n2⟩, fun j v hj => ?_, ⟨hc1.1, hc1.2, hw1, str_small s0, ?_⟩⟩
      · match j, hj with
        | 0, hj =>
          have hq := str_form s0
          simp only [OpV.cs, List.getElem?_cons_zero] at hj
          injection hj with hj
          subst hj
          rw [← hq]
          exact c0
        | 1, hj => simp [OpV.cs] at hj; subst hj; exact c1
        | 2, hj => simp [OpV.cs] at hj; subst hj; exact c2
      · have hsz : s0.size ≤ maxLen := w0
        simp only [List.length_map]
        have : s0.data.toList.length = s0.size := by rw [Array.length_toList]; rfl
        unfold maxLen at hsz
        omega
    obtain ⟨f, hf⟩ := choose_lt_x hex
    have hat : ∀ k, k < len → ((List.range len).map f)[k]? = some (f k) := fun k hk => by rw [List.getElem?_map, List.getElem?_range hk]; rfl
    have hfl : (((List.range len).map f).flatMap OpV.cs).length = len * 3 := by
      rw [flat_len OpV.cs_len]
      simp
    refine ⟨some a, cap, (List.range len).map f, by simp, ⟨by simpa using hl, by omega⟩, ⟨⟨by simpa using hfl, fun hn => ⟨a, rfl, ?_, fun j u hu => ?_⟩⟩, fun s hs => ?_⟩⟩
    · have := lt_of_cell_x ((hf 0 (by simpa using hn)).1 0 _ rfl)
      rwa [block_of_add] at this
    · have hj : j < len * 3 := by
        rcases Nat.lt_or_ge j (len * 3) with h | h
        · exact h
        · rw [List.getElem?_eq_none (by rw [hfl]; exact h)] at hu; cases hu
      have hk : j / 3 < len := by omega
      have h5 := flat_at OpV.cs 3 OpV.cs_len _ (j / 3) (j % 3) (f (j / 3)) (hat (j / 3) hk) (by omega)
      rw [show j / 3 * 3 + j % 3 = j by omega, hu] at h5
      have := (hf (j / 3) hk).1 (j % 3) u h5.symm
      rwa [show j / 3 * 3 + j % 3 = j by omega] at this
    · obtain ⟨i, hi, rfl⟩ := List.mem_map.1 hs
      exact (hf i (List.mem_range.1 hi)).2
set_option maxRecDepth 100000 in
theorem open_opsv {H : Type} {enc : TypeId × Value → H} {W : World} {base : Nat} {v : Value} {d : DataW H} {p : List MemPlace} (hval : Value.okWide Tryz.prog W .any base 43 v)
    (h : DataW.Trod enc Tryz.prog W 0 (fun _ => true) true 43 v d p) : ∃ (A : Option Addr) (c : Nat) (l : List OpV), v = .slice A l.length c ∧ (l.length ≤ c ∧ c ≤ 9223372036854775807) ∧ OpsR W A l := by
  obtain ⟨a0, len0, cap0, rfl⟩ := okWide_slice Tryz.underlying43 hval
  obtain ⟨fuel, hf⟩ := h
  exact opsv_of hf
end Go.Proofs.YtfbpfgbmlbkffaaGreat
