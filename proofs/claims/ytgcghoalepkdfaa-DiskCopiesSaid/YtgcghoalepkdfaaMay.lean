/-
  What a sector may be: six slices of sectors that the call made, each a row in a block of its own; what each holds beside the plain disk. No condition.
-/
import Derived.Test.YtgcghoalepkdfaaFine
import Derived.Test.YtgcghoalepkdfaaRegL
import Derived.ArgAppend
namespace Go.Proofs.Ytgcghoalepkdfaa
open Go.RowKit
set_option linter.unusedSimpArgs false
set_option linter.unusedVariables false
/-- the slice v holds the sectors l, in block g of the call's own, at whatever place in it -/
def SecRow (w : World) (base g : Nat) (v : Value) (l : List Sec) : Prop :=
  ∃ off cap cur, v = .slice (some ⟨g, off, none⟩) l.length cap ∧ base ≤ g ∧ w.heap[g]? = some (.cells cur 47 (0, 0)) ∧ 0 < l.length ∧ l.length ≤ cap ∧ cap ≤ maxLen ∧ cur.size = off + cap * 128 ∧
    ∀ j u, (l.flatMap Sec.cs)[j]? = some u → cur[off + j]? = some u
section
variable {w w' : World} {base g : Nat} {v : Value} {l : List Sec}
theorem flat_len (l : List Sec) : (l.flatMap Sec.cs).length = l.length * 128 := by
  induction l with
  | nil => rfl
  | cons s l ih => rw [List.flatMap_cons, List.length_append, ih, Sec.cs_len, List.length_cons]; omega
theorem flat_one (l : List Sec) : ∀ u ∈ l.flatMap Sec.cs, u.oneCell' = true := by
  intro u hu
  obtain ⟨s, _, h⟩ := List.mem_flatMap.1 hu
  exact s.one u h
theorem SecRow.of (h : SecRow w base g v l) (e : w'.heap[g]? = w.heap[g]?) : SecRow w' base g v l := by
  obtain ⟨off, cap, cur, h1, h2, h3, r⟩ := h
  exact ⟨off, cap, cur, h1, h2, e.trans h3, r⟩
theorem SecRow.lt (h : SecRow w base g v l) : g < w.heap.size := by
  obtain ⟨off, cap, cur, h1, h2, h3, r⟩ := h
  exact (Array.getElem?_eq_some_iff.1 h3).1
theorem SecRow.over (h : SecRow w base g v l) : base ≤ g := by
  obtain ⟨off, cap, cur, h1, h2, h3, r⟩ := h
  exact h2
theorem SecRow.new (w : World) (s : Sec) {base : Nat} (hb : base ≤ w.heap.size) : SecRow (w.alloc (.cells s.cs.toArray 47)) base w.heap.size (.slice (some ⟨w.heap.size, 0, none⟩) 1 1) [s] :=
  ⟨0, 1, s.cs.toArray, rfl, hb, heap_alloc_new w _, by simp, by simp, by simp [maxLen], by simp [Sec.cs_len], fun j u hu => by simpa using hu⟩
theorem SecRow.of_own {v' : Value} (h : w.ownsRow base 47 128 v' l.length (l.flatMap Sec.cs)) (hl : 0 < l.length) : ∃ g, SecRow w base g v' l ∧ v'.ownBlock = some g := by
  rcases h.2 with ⟨_, h0⟩ | ⟨g, cap, cur, hv, hb, hg, hn, hm, hs, ht⟩
  · omega
  · refine ⟨g, ⟨0, cap, cur, hv, hb, hg, hl, hn, hm, by omega, fun j u hu => ?_⟩, by rw [hv]; rfl⟩
    rw [← ht, List.getElem?_take] at hu
    split at hu
    · simpa using hu
    · cases hu
/-- the slice as the walk finds it, and its sectors -/
theorem SecRow.get (h : SecRow w base g v l) : ∃ off cap, v = .slice (some ⟨g, off, none⟩) l.length cap ∧ l.length ≤ cap ∧ cap ≤ maxLen ∧ (∀ k s, l[k]? = some s → w.rangeAt g (off + k * 128) s.cs) := by
  obtain ⟨off, cap, cur, h1, h2, h3, h4, h5, h6, h7, h8⟩ := h
  refine ⟨off, cap, h1, h5, h6, fun k s hk j u hj => ?_⟩
  have hlt : j < 128 := by
    rcases Nat.lt_or_ge j 128 with h' | h'
    · exact h'
    · rw [List.getElem?_eq_none (by rw [Sec.cs_len]; omega)] at hj; cases hj
  rw [cell_of_row w g _ cur _ _ h3, Nat.add_assoc]
  exact h8 _ _ (by rw [flat_at Sec.cs 128 (fun s => s.cs_len) l k j s hk hlt]; exact hj)
/-- the last of them, as the walk cuts it -/
theorem SecRow.last {off cap : Nat} {l' : List Sec} {s : Sec} (h : SecRow w base g (.slice (some ⟨g, off, none⟩) (l' ++ [s]).length cap) (l' ++ [s])) : SecRow w base g (.slice (some ⟨g, off + l'.length * 128, none⟩) 1 (cap - l'.length)) [s] := by
  obtain ⟨off', cap', cur, h1, h2, h3, h4, h5, h6, h7, h8⟩ := h
  simp only [Value.slice.injEq, Option.some.injEq, Addr.mk.injEq, and_true, true_and] at h1
  obtain ⟨rfl, rfl⟩ := h1
  simp only [List.length_append, List.length_singleton] at h5
  refine ⟨off + l'.length * 128, cap - l'.length, cur, rfl, h2, h3, by simp, by simp; omega, by omega, by rw [h7, Nat.sub_mul]; have := Nat.mul_le_mul_right 128 (show l'.length ≤ cap by omega); omega, fun j u hj => ?_⟩
  rw [Nat.add_assoc]
  refine h8 _ _ ?_
  rw [List.flatMap_append, List.getElem?_append_right (by rw [flat_len]; omega), flat_len, Nat.add_sub_cancel_left]
  exact hj
theorem SecRow.app {P : Program} {t ty : TypeId} {i : TypeInfo} {z : Value} (ht : P.underlying t = some (.slice 47)) (hi : P.info? 47 = some i) (hz : i.zero = some z) (hsize : i.size = 128) (hby : i.bytes = 128) (hzs : z.cells.size = 128)
    (h : SecRow w base g v l) (hl : l.length ≤ 1000000) (hbase : base ≤ w.heap.size) {A : Addr} {c : Nat} {s : Sec} (hr : ∀ j u, s.cs[j]? = some u → w.cell? (A.add j) = some u) :
    ∃ v' w' g', (Builtin.append_ #[t, t] ty #[v, .slice (some A) 1 c]).run P w = .ok v' w' ∧ SecRow w' base g' v' (l ++ [s]) ∧ Only [g] w w' ∧ (g' = g ∨ w.heap.size ≤ g') := by
  obtain ⟨off, cap, cur, rfl, h2, h3, h4, h5, h6, h7, h8⟩ := h
  have hfl := flat_len l
  have hfs : (l ++ [s]).flatMap Sec.cs = l.flatMap Sec.cs ++ s.cs := by simp
  by_cases hroom : l.length + 1 ≤ cap
  · have hsz : off + l.length * 128 + 128 ≤ cur.size := by
      have := Nat.mul_le_mul_right 128 hroom
      rw [h7]; omega
    have hB : Blk w g 47 cur.toList.toArray := by unfold Blk; rw [h3]
    have hrun := run_append_room_cells (P := P) w t ty _ i ht hi g off l.length cap A 1 c s.cs (by rw [hsize, Sec.cs_len]) hr s.one hroom
      (fun j hj => by rw [Sec.cs_len] at hj; rw [hsize, hB.cell]; simp; omega) (fun j hj => hB.frozen _)
    rw [hsize] at hrun
    have hset := setCells_any s.cs (off + l.length * 128) hB (by rw [Sec.cs_len]; simpa using hsz)
    refine ⟨_, _, g, hrun, ⟨off, cap, _, by rw [List.length_append]; rfl, h2, hset, by simp, by simp; omega, h6, ?_, fun j u hj => ?_⟩, (Only.refl _ _).grown (setCells_grown g s.cs _ w).1 (fun k e => .inl (by injection e with e; simp [e])), .inl rfl⟩
    · simp [Sec.cs_len]; omega
    · rw [hfs] at hj
      rw [List.getElem?_toArray, List.append_assoc]
      by_cases hjl : j < l.length * 128
      · rw [List.getElem?_append_left (by rw [hfl]; exact hjl)] at hj
        rw [List.getElem?_append_left (by simp; omega), List.getElem?_take, if_pos (by omega)]
        have := h8 _ _ hj
        simpa using this
      · rw [List.getElem?_append_right (by rw [hfl]; omega), hfl] at hj
        have hj2 : j - l.length * 128 < s.cs.length := by
          rcases Nat.lt_or_ge (j - l.length * 128) s.cs.length with h' | h'
          · exact h'
          · rw [List.getElem?_eq_none h'] at hj; cases hj
        have hlt : (cur.toList.take (off + l.length * 128)).length = off + l.length * 128 := by simp; omega
        rw [List.getElem?_append_right (by rw [hlt]; omega), hlt, List.getElem?_append_left (by omega), ← hj]
        congr 1
        omega
  · have holds : ∀ j u, (l.flatMap Sec.cs)[j]? = some u → w.cell? ((⟨g, off, none⟩ : Addr).add j) = some u := fun j u hj => by
      rw [Addr.add_mid, cell_of_row w g _ cur _ _ h3]; exact h8 _ _ hj
    obtain ⟨v', w', hrun, hown, hg⟩ := run_append_arg_grows (P := P) w t ty _ i z 128 128 ht hi hz hsize hby hzs (by omega) ⟨g, off, none⟩ l.length cap (l.flatMap Sec.cs) hfl holds A 1 c s.cs (by rw [Sec.cs_len]) hr (by omega) (by simp [maxLen]; omega) (by omega)
    rw [← hfs, show l.length + 1 = (l ++ [s]).length by simp] at hown
    obtain ⟨g', h', hob⟩ := SecRow.of_own (row_weaken hown hbase) (by simp)
    refine ⟨v', w', g', hrun, h', (Only.refl _ _).grown hg (fun k e => by cases e), .inr ?_⟩
    exact (World.ownsRow.lt hown g' hob).1
end
/-- six slices at gl: of the first n, row j holds L j, in block R j -/
structure MayAt (w : World) (base gl n : Nat) (R : Nat → Nat) (vs : Nat → Value) (L : Nat → List Sec) : Prop where
  le : n ≤ 6
  blk : Blk w gl 45 ((List.range 6).map vs).toArray
  rows : ∀ j, j < n → SecRow w base (R j) (vs j) (L j)
  apart : ∀ i j, i < n → j < n → i ≠ j → R i ≠ R j
def mayBlocks (gl n : Nat) (R : Nat → Nat) : List Nat := gl :: (List.range n).map R
theorem mem_may {gl n : Nat} {R : Nat → Nat} {k : Nat} : k ∈ mayBlocks gl n R ↔ k = gl ∨ ∃ j, j < n ∧ R j = k := by simp [mayBlocks]
section
variable {w w' : World} {base gl n : Nat} {R : Nat → Nat} {vs : Nat → Value} {L : Nat → List Sec}
theorem MayAt.of (h : MayAt w base gl n R vs L) (hk : ∀ k ∈ mayBlocks gl n R, w'.heap[k]? = w.heap[k]?) : MayAt w' base gl n R vs L :=
  ⟨h.le, h.blk.of (hk gl (mem_may.2 (.inl rfl))), fun j hj => (h.rows j hj).of (hk _ (mem_may.2 (.inr ⟨j, hj, rfl⟩))), h.apart⟩
theorem MayAt.under (h : MayAt w base gl n R vs L) : ∀ k ∈ mayBlocks gl n R, k < w.heap.size := fun k hk => by
  rcases mem_may.1 hk with rfl | ⟨j, hj, rfl⟩
  · exact h.blk.lt
  · exact (h.rows j hj).lt
theorem MayAt.below (h : MayAt w base gl n R vs L) (hb : Below w.heap.size w w') : MayAt w' base gl n R vs L := h.of fun k hk => hb.block k (h.under k hk)
theorem MayAt.keep (h : MayAt w base gl n R vs L) (hk : Keep (mayBlocks gl n R) w w') : MayAt w' base gl n R vs L := h.of fun k hm => hk.2 k hm
theorem MayAt.cell (h : MayAt w base gl n R vs L) {j : Nat} (hj : j < 6) : w.cell? ⟨gl, j, none⟩ = some (vs j) := by
  rw [h.blk.cell]; simp [hj]
theorem SecRow.ne_blk {base g gl : Nat} {v : Value} {l : List Sec} {t : TypeId} {cs : Array Value} (h : SecRow w base g v l) (hb : Blk w gl t cs) (ht : t ≠ 47) : g ≠ gl := by
  rintro rfl
  obtain ⟨off, cap, cur, h1, h2, h3, r⟩ := h
  unfold Blk at hb
  rw [h3] at hb
  injection hb with hb
  injection hb with _ hb
  exact ht hb.symm
theorem set_vs (vs : Nat → Value) (v : Value) (j : Nat) : ((List.range 6).map vs).toArray.setIfInBounds j v = ((List.range 6).map (fun i => if i = j then v else vs i)).toArray := by
  apply Array.ext_getElem?
  intro k
  simp only [List.setIfInBounds_toArray, List.getElem?_toArray, List.getElem?_set, List.length_map, List.length_range, List.getElem?_map]
  by_cases hk : j = k
  · subst hk
    by_cases h6 : j < 6
    · simp [h6]
    · simp [h6]
  · rw [if_neg hk]
    by_cases h6 : k < 6
    · simp [h6, Ne.symm hk]
    · simp [h6]
/-- a row is stored at its place; it may be the next one -/
theorem MayAt.put (h : MayAt w base gl n R vs L) {m j g' : Nat} (hm : m = n ∧ j < n ∨ m = n + 1 ∧ j = n) (hm6 : m ≤ 6) {v' : Value} {l' : List Sec} (hr : SecRow w base g' v' l') (hg : (j < n ∧ g' = R j) ∨ ∀ i, i < n → R i ≠ g') :
    MayAt (w.setCell ⟨gl, j, none⟩ v') base gl m (fun i => if i = j then g' else R i) (fun i => if i = j then v' else vs i) (fun i => if i = j then l' else L i) := by
  have hne := hr.ne_blk h.blk (by decide)
  refine ⟨hm6, ?_, fun i hi => ?_, fun a b ha hb hab => ?_⟩
  · rw [← set_vs]; exact h.blk.set_ j v'
  · by_cases hij : i = j
    · simp only [hij, if_true]
      exact hr.of (Below.heap_setCell _ _ _ _ hne)
    · simp only [hij, if_false]
      have hi' : i < n := by omega
      exact (h.rows i hi').of (Below.heap_setCell _ _ _ _ ((h.rows i hi').ne_blk h.blk (by decide)))
  · by_cases h1 : a = j <;> by_cases h2 : b = j <;> simp only [h1, h2, if_true, if_false]
    · omega
    · have hb' : b < n := by omega
      rcases hg with ⟨hj, rfl⟩ | hg
      · subst h1; exact h.apart a b hj hb' hab
      · exact Ne.symm (hg b hb')
    · have ha' : a < n := by omega
      rcases hg with ⟨hj, rfl⟩ | hg
      · subst h2; exact h.apart a b ha' hj hab
      · exact hg a ha'
    · exact h.apart a b (by omega) (by omega) hab
end
/-- a disk beside rows, of which one grew or came anew and was stored -/
theorem Holds.rows {w0 w w' : World} {g gl n m j g' : Nat} {d : DM} {R : Nat → Nat} {v' : Value} (h : Holds w0 w g d (mayBlocks gl n R)) (hm : m ≤ n + 1) (hmj : m = n + 1 → j = n) (ho : Only (mayBlocks gl n R) w w') (hO : Over w0.heap.size (mayBlocks gl n R)) (hg : (j < n ∧ g' = R j) ∨ w.heap.size ≤ g') (hlt : g' < w'.heap.size) :
    Holds w0 (w'.setCell ⟨gl, j, none⟩ v') g d (mayBlocks gl m (fun i => if i = j then g' else R i)) := by
  obtain ⟨F, h1, h2, h3⟩ := h
  have ho' : Only (mayBlocks gl n R) w (w'.setCell ⟨gl, j, none⟩ v') := ho.setCell (.inl (mem_may.2 (.inl rfl))) _
  refine ⟨F, h1.of (fun k hk => ho'.block k (h1.under k hk) (fun hm => (h3 k hm).1 hk)), h2.trans (ho'.below hO h2.size), fun k hk => ?_⟩
  have hs := ho'.size
  have hlt' : g' < (w'.setCell ⟨gl, j, none⟩ v').heap.size := by simpa [World.setCell] using hlt
  have hold : ∀ k ∈ mayBlocks gl n R, k ∉ F ∧ k < (w'.setCell ⟨gl, j, none⟩ v').heap.size := fun k hk => ⟨(h3 k hk).1, Nat.lt_of_lt_of_le (h3 k hk).2 hs⟩
  rcases mem_may.1 hk with rfl | ⟨i, hi, rfl⟩
  · exact hold k (mem_may.2 (.inl rfl))
  · by_cases hij : i = j
    · simp only [hij, if_true]
      rcases hg with ⟨hj, rfl⟩ | hg
      · exact hold _ (mem_may.2 (.inr ⟨j, hj, rfl⟩))
      · exact ⟨fun hF => by have := h1.under _ hF; omega, hlt'⟩
    · simp only [hij, if_false]
      refine hold _ (mem_may.2 (.inr ⟨i, ?_, rfl⟩))
      by_cases hmn : m = n + 1
      · have := hmj hmn; omega
      · omega
/-- a row that grew is stored at its place: of the others nothing has turned -/
theorem MayAt.turn {w1 w : World} {base gl n : Nat} {R : Nat → Nat} {vs : Nat → Value} {L : Nat → List Sec} (h : MayAt w1 base gl n R vs L) {j g' : Nat} (hj : j < n) {v' : Value} {l' : List Sec} (ho : Only [R j] w1 w) (hr : SecRow w base g' v' l') (hg : g' = R j ∨ w1.heap.size ≤ g') :
    MayAt (w.setCell ⟨gl, j, none⟩ v') base gl n (fun i => if i = j then g' else R i) (fun i => if i = j then v' else vs i) (fun i => if i = j then l' else L i) := by
  have hgl : gl ∉ [R j] := by
    intro hm
    simp at hm
    exact (h.rows j hj).ne_blk h.blk (by decide) hm.symm
  have hb : Blk w gl 45 ((List.range 6).map vs).toArray := h.blk.of (ho.block gl h.blk.lt hgl)
  have hne := hr.ne_blk hb (by decide)
  have hrow : ∀ i, i < n → i ≠ j → SecRow w base (R i) (vs i) (L i) := fun i hi hij => (h.rows i hi).of (ho.block _ (h.rows i hi).lt (by simpa using h.apart i j hi hj hij))
  have hRg : ∀ i, i < n → i ≠ j → R i ≠ g' := fun i hi hij => by
    rcases hg with rfl | hg
    · exact h.apart i j hi hj hij
    · have := (h.rows i hi).lt; omega
  refine ⟨h.le, ?_, fun i hi => ?_, fun a b ha hb hab => ?_⟩
  · rw [← set_vs]; exact hb.set_ j v'
  · by_cases hij : i = j
    · simp only [hij, if_true]
      exact hr.of (Below.heap_setCell _ _ _ _ hne)
    · simp only [hij, if_false]
      exact (hrow i hi hij).of (Below.heap_setCell _ _ _ _ ((hrow i hi hij).ne_blk hb (by decide)))
  · by_cases h1 : a = j <;> by_cases h2 : b = j <;> simp only [h1, h2, if_true, if_false]
    · omega
    · exact Ne.symm (hRg b hb h2)
    · exact hRg a ha h1
    · exact h.apart a b ha hb hab
theorem Keep.mono {X Y : List Nat} {w w' : World} (h : Keep X w w') (hs : ∀ k ∈ Y, k ∈ X) : Keep Y w w' := ⟨h.1, fun k hk => h.2 k (hs k hk)⟩
theorem wp_append_row {P : Program} {w : World} {base g : Nat} {v : Value} {l : List Sec} {o : Oper} {a : Act} {K : Act → World → Prop} {Q : Exit → Act → World → Prop} (s x : Operand) (t : TypeId)
    (ho : o.op = .call { callee := .builtin .append, args := #[s, x], argTypes := #[t, t] }) (hs : a.eval s = v) {i : TypeInfo} {z : Value} (ht : P.underlying t = some (.slice 47)) (hi : P.info? 47 = some i) (hz : i.zero = some z) (hsize : i.size = 128) (hby : i.bytes = 128) (hzs : z.cells.size = 128)
    (h : SecRow w base g v l) (hl : l.length ≤ 1000000) (hbase : base ≤ w.heap.size) {A : Addr} {c : Nat} (hx : a.eval x = .slice (some A) 1 c) {sec : Sec} (hr : ∀ j u, sec.cs[j]? = some u → w.cell? (A.add j) = some u)
    (hk : ∀ v' w' g', SecRow w' base g' v' (l ++ [sec]) → Only [g] w w' → (g' = g ∨ w.heap.size ≤ g') → K (a.put o.dst v') w') : o.wp P a w K Q := by
  obtain ⟨v', w', g', hrun, h1, h2, h3⟩ := SecRow.app (P := P) (ty := o.type) ht hi hz hsize hby hzs h hl hbase (c := c) hr
  unfold Oper.wp execOp
  simp only [ho, resolve, invoke, builtin, Sem.run_bind, Sem.run_pure, Result.andThen_ok, List.map_toArray, List.map_cons, List.map_nil, hs, hx, hrun]
  exact hk v' w' g' h1 h2 h3
theorem MayAt.same {w : World} {base gl n : Nat} {R : Nat → Nat} {vs : Nat → Value} {L M : Nat → List Sec} (h : MayAt w base gl n R vs L) (e : ∀ j, j < n → L j = M j) : MayAt w base gl n R vs M :=
  ⟨h.le, h.blk, fun j hj => by rw [← e j hj]; exact h.rows j hj, h.apart⟩
theorem row_same (R : Nat → Nat) (j : Nat) : (fun i => if i = j then R j else R i) = R := by
  funext i
  by_cases h : i = j
  · simp [h]
  · simp [h]
theorem range_below {w w' : World} {g o : Nat} {cs : List Value} (h : w.rangeAt g o cs) (hb : Below w.heap.size w w') (hg : g < w.heap.size) : w'.rangeAt g o cs := fun j u hj => (hb.cell (p := ⟨g, o + j, none⟩) hg).trans (h j u hj)
theorem wpList_wanted {P : Program} {ops : Array Oper} {rest : List Oper} {o : Oper} {a : Act} {w : World} {Q : Exit → Act → World → Prop} (hw : Region.wanted o (yielded ops a.tmps) = true)
    (h : ∀ K : Act → World → Prop, (∀ a w, wpList P ops Q rest a w → K a w) → o.wp P a w K Q) : wpList P ops Q (o :: rest) a w :=
  wpList_step fun K hK => by rw [if_pos hw]; exact h K hK
theorem wpListG_load_mid {P : Program} {ops : Array Oper} {rest : List Oper} {op : Oper} {a : Act} {w : World} {Q : Exit → Act → World → Prop} (hw : Region.wanted op (yielded ops a.tmps) = true) (ty : TypeId) (x : Operand) (ho : op.op = .load ty x)
    (b o : Nat) (hx : a.eval x = .pointer (some ⟨b, o, none⟩)) (cs : List Value) (d : TypeDesc) (hc : w.rangeAt b o cs) (hu : P.underlying ty = some d) (hd : d.isRow = true) (hi : (P.info? ty).map (·.size) = some cs.length)
    (h : wpList P ops Q rest (a.put op.dst (.agg cs.toArray)) w) : wpList P ops Q (op :: rest) a w :=
  wpList_wanted hw fun _ hK => wp_load_mid ty x ho b o hx cs d hc hu hd hi (hK _ _ h)
theorem wpListG_sec_eq {ops : Array Oper} {rest : List Oper} {op : Oper} {a : Act} {w : World} {Q : Exit → Act → World → Prop} (hw : Region.wanted op (yielded ops a.tmps) = true) (x y : Operand) (ho : op.op = .binOp .eql 47 x y 47)
    (s t : Sec) (hx : a.eval x = .agg s.cs.toArray) (hy : a.eval y = .agg t.cs.toArray)
    (h : wpList Try.prog ops Q rest (a.put op.dst (.bool (secEq s t))) w) : wpList Try.prog ops Q (op :: rest) a w :=
  wpList_wanted hw fun _ hK => by
    refine wp_ran (v := .bool (secEq s t)) (w' := w) ?_ (hK _ _ h)
    have := run_sec_eq s t w
    simp [execOp, ho, hx, hy, this, run_sec_guard, Result.andThen]
theorem run_index_six {P : Program} (t e : TypeId) (cs : List Value) (j : Nat) (v : Value) (h : P.underlying t = some (.array 6 e)) (hi : (P.info? e).map (·.size) = some 1) (ha : ∀ w, (isAgg e).run P w = .ok false w) (hj : j < 6) (hv : cs[j]? = some v) (w : World) :
    (Instr.index t (.agg cs.toArray) (.int .i64 j)).run P w = .ok v w := by
  cases hq : P.info? e with
  | none => simp [hq] at hi
  | some i =>
    simp [hq] at hi
    have h6 : (j : Int) < 6 := by omega
    simp [Instr.index, run_underlying h, asIntOf, h6, hj, ha, Result.andThen, sizeOf, typeInfo, hq, hi, hv, go_sem]
theorem MayAt.over {w : World} {base gl n : Nat} {R : Nat → Nat} {vs : Nat → Value} {L : Nat → List Sec} (h : MayAt w base gl n R vs L) (hb : base ≤ gl) : Over base (mayBlocks gl n R) := fun k hk => by
  rcases mem_may.1 hk with rfl | ⟨j, hj, rfl⟩
  · exact hb
  · exact (h.rows j hj).over
/-- what a disk that isn't armed has come to, beside what each sector may be; k acts at most were done -/
structure Whole (d : DM) (L : Nat → List Sec) (k : Nat) : Prop where
  up : d.gone = false
  free : d.armed = false
  six : d.n = 6
  left : d.left = 0
  steps : d.steps ≤ k
  wait : d.wait.length ≤ k
  rows : ∀ j : Nat, j < 6 → L j = d.sure j :: (d.wait.filter fun x => x.1 == (j : Int)).map (·.2)
section
variable {d : DM} {L : Nat → List Sec} {k : Nat}
theorem Whole.off (h : Whole d L k) : d.off = false := by simp [DM.off, h.up, h.free]
theorem Whole.new : Whole (DM.new 6) (fun _ => [Sec.zero]) 0 := ⟨rfl, rfl, rfl, rfl, Nat.le_refl _, Nat.le_refl _, fun j hj => by simp [DM.new]⟩
theorem Whole.mono (h : Whole d L k) : Whole d L (k + 1) := ⟨h.up, h.free, h.six, h.left, Nat.le_succ_of_le h.steps, Nat.le_succ_of_le h.wait, h.rows⟩
theorem Whole.has (h : Whole d L k) (j : Int) : d.has j = (decide (0 ≤ j) && decide (j < 6)) := by simp [DM.has, h.six]
theorem Whole.stepErr (h : Whole d L k) : d.stepErr = 0 := by simp [DM.stepErr, h.off]
theorem Whole.long (h : Whole d L k) (j : Nat) (hj : j < 6) : 0 < (L j).length ∧ (L j).length ≤ k + 1 := by
  rw [h.rows j hj]
  have := List.length_filter_le (fun x : Int × Sec => x.1 == (j : Int)) d.wait
  have := h.wait
  simp
  omega
theorem Whole.bad (h : Whole d L k) {i : Int} (hi : ¬ (0 ≤ i ∧ i < 6)) (s : Sec) : d.write i s = d ∧ d.writeErr i = 1 := by
  have hh : d.has i = false := by
    rw [h.has, Bool.and_eq_false_iff]
    simp
    omega
  exact ⟨by simp [DM.write, hh], by simp [DM.writeErr, hh]⟩
theorem Whole.write (h : Whole d L k) {i : Nat} (h6 : i < 6) (s : Sec) : Whole (d.write i s) (fun j => if j = i then L i ++ [s] else L j) (k + 1) ∧ d.writeErr i = 0 := by
  have hh : d.has i = true := by
    rw [h.has]
    simp
    omega
  have e : d.write i s = { d.step with wait := d.wait ++ [((i : Int), s)] } := by simp [DM.write, hh, h.off]
  have es : d.step = { d with steps := d.steps + 1, left := d.left } := by simp [DM.step, h.off, h.free]
  refine ⟨?_, by simp [DM.writeErr, hh, h.off]⟩
  rw [e, es]
  refine ⟨h.up, h.free, h.six, h.left, by have := h.steps; show d.steps + 1 ≤ _; omega, by have := h.wait; show (d.wait ++ [((i : Int), s)]).length ≤ _; simp; omega, fun j hj => ?_⟩
  show _ = d.sure j :: ((d.wait ++ [((i : Int), s)]).filter fun x => x.1 == (j : Int)).map (·.2)
  rw [List.filter_append, List.map_append]
  by_cases hij : j = i
  · subst hij
    simp only [if_true, h.rows j hj]
    simp
  · have hb : ((i : Int) == (j : Int)) = false := by simp; omega
    simp only [hij, if_false, h.rows j hj]
    simp [hb]
theorem last_rows (j : Int) (a : Sec) : ∀ (l : List (Int × Sec)), (lastOf j l).getD a = (a :: (l.filter fun x => x.1 == j).map (·.2)).getLast (by simp) := by
  have h : ∀ n (l : List (Int × Sec)), l.length = n → (lastOf j l).getD a = (a :: (l.filter fun x => x.1 == j).map (·.2)).getLast (by simp) := by
    intro n
    induction n with
    | zero => intro l hl; obtain rfl := List.eq_nil_of_length_eq_zero hl; rfl
    | succ n ih =>
      intro l hl
      rcases List.eq_nil_or_concat l with rfl | ⟨l', x, rfl⟩
      · simp at hl
      have := ih l' (by simpa using hl)
      simp only [List.concat_eq_append, lastOf_snoc, List.filter_append, List.map_append]
      by_cases hx : x.1 = j
      · have hb : (x.1 == j) = true := by simpa using hx
        simp [hx, List.filter_cons, List.getLast_cons]
      · have hb : (x.1 == j) = false := by simpa using hx
        simp only [hx, if_false, this]
        simp [hb]
  exact fun l => h _ l rfl
theorem Whole.flush (h : Whole d L k) : Whole d.flush (fun j => [(L j).getLastD Sec.zero]) (k + 1) := by
  refine ⟨?_, ?_, ?_, ?_, ?_, ?_, fun j hj => ?_⟩
  · simp [DM.flush, h.off, DM.settle, DM.step, h.up]
  · simp [DM.flush, h.off, DM.settle, DM.step, h.free]
  · simp [DM.flush, h.off, DM.settle, DM.step, h.six]
  · simp [DM.flush, h.off, DM.settle, DM.step, h.free, h.left]
  · have := h.steps
    simp [DM.flush, h.off, DM.settle, DM.step]
    omega
  · simp [DM.flush, h.off, DM.settle]
  · have e1 : d.flush.wait = [] := by simp [DM.flush, h.off, DM.settle]
    have e2 : d.flush.sure j = (L j).getLastD Sec.zero := by
      simp only [DM.flush, h.off, DM.settle, DM.step, Bool.false_eq_true, if_false]
      rw [settled_last, last_rows, h.rows j hj]
      rfl
    rw [e1, e2]
    rfl
theorem settled_mem (kept : Nat → Bool) (j : Int) : ∀ (l : List (Int × Sec)) (n : Nat) (f : Int → Sec), settled kept n l f j ∈ f j :: (l.filter fun x => x.1 == j).map (·.2)
  | [], n, f => by simp [settled]
  | x :: l, n, f => by
    have := settled_mem kept j l (n + 1) (if kept n then (fun k => if k = x.1 then x.2 else f k) else f)
    rw [settled]
    rcases List.mem_cons.1 this with h | h
    · rw [h]
      by_cases hk : kept n = true
      · rw [if_pos hk]
        by_cases hx : j = x.1
        · subst hx; simp
        · simp [hx]
      · rw [if_neg hk]; simp
    · simp only [List.filter_cons]
      split
      · simp only [List.map_cons, List.mem_cons]
        exact .inr (.inr h)
      · exact List.mem_cons_of_mem _ h
theorem Whole.crash (h : Whole d L k) (keep : List Bool) : (d.crash keep).gone = false ∧ (d.crash keep).wait = [] ∧ ∀ j : Nat, j < 6 → (d.crash keep).read j ∈ L j ∧ (d.crash keep).readErr j = 0 ∧ (d.crash keep).sure j = (d.crash keep).read j := by
  refine ⟨rfl, rfl, fun j hj => ?_⟩
  have hh : (d.crash keep).has j = true := by
    simp [DM.has, DM.crash, DM.restore, DM.settle, h.six]; omega
  have hr : (d.crash keep).read j = (d.crash keep).sure j := by
    unfold DM.read
    rw [hh]
    simp [DM.crash, DM.restore, DM.settle, lastOf]
  refine ⟨?_, by unfold DM.readErr; rw [hh]; simp [DM.crash, DM.restore], hr.symm⟩
  rw [hr, h.rows j hj]
  exact settled_mem _ _ _ _ _
end
end Go.Proofs.Ytgcghoalepkdfaa
