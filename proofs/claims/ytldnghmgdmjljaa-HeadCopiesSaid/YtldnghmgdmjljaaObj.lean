/-
  Words for objects in memory: what a call turned (Only F: no older block but those of F), where an object's new blocks lie (Fresh), that two objects share none (Apart). A map with numbers for keys. No condition; nothing of the program is named.
-/
import Derived.Test.YtldnghmgdmjljaaMem
import Derived.MapKept
import Derived.Maps.Own
import Derived.Tactics
import Derived.Deep.MidRow
namespace Go.Proofs.Ytldnghmgdmjljaa
open Go.RowKit Go.ChangeMaps

/-- of the blocks that were there none but those of F has turned -/
structure Only (F : List Nat) (w w' : World) : Prop where
  os : w'.os = w.os
  tape : w'.tape = w.tape
  output : w'.output = w.output
  size : w.heap.size ≤ w'.heap.size
  block : ∀ k, k < w.heap.size → k ∉ F → w'.heap[k]? = w.heap[k]?
/-- the blocks of F' are F's, or new since w -/
def Fresh (w : World) (F F' : List Nat) : Prop := ∀ k, k ∈ F' → k ∈ F ∨ w.heap.size ≤ k
def Apart (F G : List Nat) : Prop := ∀ k, k ∈ F → k ∉ G
def Under (w : World) (F : List Nat) : Prop := ∀ k, k ∈ F → k < w.heap.size
def Over (B : Nat) (F : List Nat) : Prop := ∀ k, k ∈ F → B ≤ k

section
variable {F F' F'' G : List Nat} {w w' w'' : World}
theorem Only.refl (F : List Nat) (w : World) : Only F w w := ⟨rfl, rfl, rfl, Nat.le_refl _, fun _ _ _ => rfl⟩
theorem Only.trans (h : Only F w w') (k : Only F' w' w'') (hf : Fresh w F F') : Only F w w'' :=
  ⟨k.os.trans h.os, k.tape.trans h.tape, k.output.trans h.output, Nat.le_trans h.size k.size, fun i hi hn =>
    (k.block i (Nat.lt_of_lt_of_le hi h.size) (fun hm => by
      rcases hf i hm with h1 | h1
      · exact hn h1
      · omega)).trans (h.block i hi hn)⟩
theorem Only.mono (h : Only F w w') (hs : ∀ k, k ∈ F → k ∈ G) : Only G w w' := ⟨h.os, h.tape, h.output, h.size, fun i hi hn => h.block i hi (fun hm => hn (hs i hm))⟩
theorem Only.alloc (h : Only F w w') (o : Obj) : Only F w (w'.alloc o) :=
  ⟨h.os, h.tape, h.output, Nat.le_trans h.size (by simp), fun i hi hn => (Below.heap_alloc w' o i (Nat.lt_of_lt_of_le hi h.size)).trans (h.block i hi hn)⟩
theorem Only.drew (h : Only F w w') : Only F w w'.drew := ⟨h.os, h.tape, h.output, h.size, h.block⟩
theorem Only.drewN (h : Only F w w') (n : Nat) : Only F w (w'.drewN n) := ⟨h.os, h.tape, h.output, h.size, h.block⟩
theorem Only.setCell (h : Only F w w') {p : Addr} (hp : p.block ∈ F ∨ w.heap.size ≤ p.block) (u : Value) : Only F w (w'.setCell p u) :=
  ⟨h.os, h.tape, h.output, by simpa [World.setCell] using h.size, fun i hi hn => (Below.heap_setCell w' p u i (by
    rintro rfl
    rcases hp with hp | hp
    · exact hn hp
    · omega)).trans (h.block i hi hn)⟩
theorem Only.grown (h : Only F w w') {row : Option Nat} (hg : w'.grownBy w'' row) (hr : ∀ g, row = some g → g ∈ F ∨ w.heap.size ≤ g) : Only F w w'' :=
  ⟨hg.os.trans h.os, hg.tape.trans h.tape, hg.output.trans h.output, Nat.le_trans h.size hg.size, fun i hi hn => (hg.block i (Nat.lt_of_lt_of_le hi h.size) (fun e => by
    rcases hr i e.symm with h1 | h1
    · exact hn h1
    · omega)).trans (h.block i hi hn)⟩
theorem Only.of_below (h : Below w.heap.size w w') (F : List Nat) : Only F w w' := ⟨h.os, h.tape, h.output, h.size, fun i hi _ => h.block i hi⟩
theorem Only.below (h : Only F w w') {B : Nat} (hB : Over B F) (hs : B ≤ w.heap.size) : Below B w w' :=
  ⟨h.os, h.tape, h.output, h.size, fun i hi => h.block i (by omega) (fun hm => by have := hB i hm; omega)⟩
theorem Only.nil (h : Only [] w w') : Below w.heap.size w w' := h.below (fun _ hk => by cases hk) (Nat.le_refl _)
theorem Only.cell (h : Only F w w') {p : Addr} (hp : p.block < w.heap.size) (hn : p.block ∉ F) : w'.cell? p = w.cell? p := World.cell?_of_block (w := w) (h.block p.block hp hn)
theorem Fresh.refl (w : World) (F : List Nat) : Fresh w F F := fun _ h => .inl h
theorem Fresh.trans (h : Fresh w F F') (k : Fresh w' F' F'') (hs : w.heap.size ≤ w'.heap.size) : Fresh w F F'' := fun i hi => by
  rcases k i hi with h1 | h1
  · exact h i h1
  · exact .inr (by omega)
theorem Fresh.over (h : Fresh w F F') {B : Nat} (hB : Over B F) (hs : B ≤ w.heap.size) : Over B F' := fun k hk => by
  rcases h k hk with h1 | h1
  · exact hB k h1
  · omega
theorem Apart.fresh (h : Apart F G) (hf : Fresh w F F') (hu : Under w G) : Apart F' G := fun k hk hg => by
  rcases hf k hk with h1 | h1
  · exact h k h1 hg
  · have := hu k hg; omega
theorem Apart.symm (h : Apart F G) : Apart G F := fun k hk hg => h k hg hk
theorem Apart.freshR (h : Apart F G) {G' : List Nat} (hf : Fresh w G G') (hu : Under w F) : Apart F G' := (h.symm.fresh hf hu).symm
theorem Under.more (h : Under w F) (hs : w.heap.size ≤ w'.heap.size) : Under w' F := fun k hk => Nat.lt_of_lt_of_le (h k hk) hs
theorem Only.keeps (h : Only F w w') (ha : Apart F G) (hu : Under w G) : ∀ k, k ∈ G → w'.heap[k]? = w.heap[k]? := fun k hk => h.block k (hu k hk) (fun hm => ha k hm hk)
theorem below_drew' {B : Nat} (h : Below B w.drew w') : Below B w w' := ⟨h.os, h.tape, h.output, h.size, h.block⟩
theorem below_keeps (h : Below w.heap.size w w') (hu : Under w G) : ∀ k, k ∈ G → w'.heap[k]? = w.heap[k]? := fun k hk => h.block k (hu k hk)

theorem Blk.of {g : Nat} {t : TypeId} {cs : Array Value} (h : Blk w g t cs) (e : w'.heap[g]? = w.heap[g]?) : Blk w' g t cs := e.trans h
/-- the block in which a slice lies -/
def rowOf (v : Value) : List Nat := v.ownBlock.toList
theorem mem_rowOf {v : Value} {k : Nat} : k ∈ rowOf v ↔ v.ownBlock = some k := by simp [rowOf]
theorem row_of {base : Nat} {e : TypeId} {size n : Nat} {v : Value} {xs : List Value} (h : w.ownsRow base e size v n xs) (hk : ∀ k, k ∈ rowOf v → w'.heap[k]? = w.heap[k]?) : w'.ownsRow base e size v n xs := by
  refine ⟨h.1, ?_⟩
  rcases h.2 with h2 | ⟨g, cap, cur, hv, hg, hh, r⟩
  · exact .inl h2
  · exact .inr ⟨g, cap, cur, hv, hg, by rw [hk g (by subst hv; simp [rowOf, Value.ownBlock])]; exact hh, r⟩
theorem row_weaken {base base' : Nat} {e : TypeId} {size n : Nat} {v : Value} {xs : List Value} (h : w.ownsRow base e size v n xs) (hb : base' ≤ base) : w.ownsRow base' e size v n xs := by
  refine ⟨h.1, ?_⟩
  rcases h.2 with h | ⟨g, cap, cur, e, hg, r⟩
  · exact .inl h
  · exact .inr ⟨g, cap, cur, e, Nat.le_trans hb hg, r⟩
theorem row_under {base : Nat} {e : TypeId} {size n : Nat} {v : Value} {xs : List Value} (h : w.ownsRow base e size v n xs) : Under w (rowOf v) := fun k hk => (World.ownsRow.lt h k (mem_rowOf.1 hk)).2
theorem row_over {base : Nat} {e : TypeId} {size n : Nat} {v : Value} {xs : List Value} (h : w.ownsRow base e size v n xs) : Over base (rowOf v) := fun k hk => (World.ownsRow.lt h k (mem_rowOf.1 hk)).1
end

/-! ### a store of many cells -/
theorem setCells_grown (g : Nat) : ∀ (vs : List Value) (o : Nat) (w : World), w.grownBy (w.setCells g o vs) (some g) ∧ (w.setCells g o vs).heap.size = w.heap.size
  | [], _, w => ⟨World.grownBy.refl w _, rfl⟩
  | v :: vs, o, w => by
    obtain ⟨h1, h2⟩ := setCells_grown g vs (o + 1) (w.setCell ⟨g, o, none⟩ v)
    rw [World.setCells]
    have h0 : w.grownBy (w.setCell ⟨g, o, none⟩ v) (some g) := ⟨rfl, rfl, rfl, by simp [World.setCell], fun k _ hn => Below.heap_setCell w ⟨g, o, none⟩ v k (fun e => hn (by rw [e]))⟩
    exact ⟨h0.trans h1, by rw [h2]; simp [World.setCell]⟩
theorem Blk.setCells_ {g : Nat} {t : TypeId} : ∀ (vs : List Value) (o : Nat) {w : World} {cs : Array Value}, Blk w g t cs → ∃ cs', Blk (w.setCells g o vs) g t cs' ∧ cs'.size = cs.size
  | [], _, _, cs, h => ⟨cs, h, rfl⟩
  | v :: vs, o, w, cs, h => by
    obtain ⟨cs', h1, h2⟩ := Blk.setCells_ vs (o + 1) (h.set_ o v)
    exact ⟨cs', h1, by simpa using h2⟩
/-- the whole block is written over -/
theorem Blk.over {g : Nat} {t : TypeId} {w : World} {cs : Array Value} (h : Blk w g t cs) (vs : List Value) (hl : vs.length = cs.size) : Blk (w.setCells g 0 vs) g t vs.toArray := by
  obtain ⟨cs', h1, h2⟩ := Blk.setCells_ vs 0 h
  have : cs' = vs.toArray := by
    apply Array.ext_getElem?
    intro k
    rw [← h1.cell k]
    by_cases hk : k < vs.length
    · have := World.cell?_setCells_in g vs 0 w (fun j hj => by rw [Nat.zero_add, h.cell]; simp; omega) k hk
      rw [Nat.zero_add] at this
      rw [this]
      simp [hk]
    · rw [h1.cell, Array.getElem?_eq_none (by omega)]
      simp
      omega
  rw [← this]
  exact h1
theorem Blk.there {g : Nat} {t : TypeId} {w : World} {cs : Array Value} (h : Blk w g t cs) {o n : Nat} (hn : o + n ≤ cs.size) : w.there g o n := fun j hj => ⟨by rw [h.cell]; simp; omega, h.frozen _⟩
theorem Blk.range {g : Nat} {t : TypeId} {w : World} {cs : List Value} (h : Blk w g t cs.toArray) : w.rangeAt g 0 cs := fun j u hj => by rw [Nat.zero_add, h.cell]; simpa using hj

/-! ### a row of elements of several cells -/
theorem flat_at {α : Type} (f : α → List Value) (size : Nat) (hf : ∀ x, (f x).length = size) : ∀ (l : List α) (k j : Nat) (x : α), l[k]? = some x → j < size → (l.flatMap f)[k * size + j]? = (f x)[j]?
  | [], _, _, _, h, _ => by simp at h
  | y :: l, 0, j, x, h, hj => by
    simp at h
    subst h
    rw [List.flatMap_cons, Nat.zero_mul, Nat.zero_add, List.getElem?_append_left (by rw [hf]; exact hj)]
  | y :: l, k + 1, j, x, h, hj => by
    rw [List.flatMap_cons, List.getElem?_append_right (by rw [hf, Nat.add_mul]; omega), hf, show (k + 1) * size + j - size = k * size + j by rw [Nat.add_mul]; omega]
    exact flat_at f size hf l k j x (by simpa using h) hj
theorem row_at {α : Type} {f : α → List Value} {size : Nat} (hf : ∀ x, (f x).length = size) {w : World} {base : Nat} {e : TypeId} {A : Option Addr} {n cap : Nat} {l : List α} (h : w.ownsRow base e size (.slice A n cap) n (l.flatMap f)) (hl : l.length = n) {k : Nat} (hk : k < n) :
    ∃ gw x, A = some ⟨gw, 0, none⟩ ∧ n ≤ cap ∧ l[k]? = some x ∧ w.rangeAt gw (k * size) (f x) ∧ base ≤ gw ∧ gw < w.heap.size := by
  rcases h.2 with ⟨hv, _⟩ | ⟨gw, cap', cur, hv, hbg, hg, hnc, _⟩
  · injection hv; omega
  · injection hv with h1 h2 h3
    subst h1 h3
    have hx : l[k]? = some (l[k]'(by omega)) := List.getElem?_eq_getElem (by omega)
    refine ⟨gw, _, rfl, hnc, hx, fun j u hj => ?_, hbg, (Array.getElem?_eq_some_iff.1 hg).1⟩
    have hjs : j < size := by
      rw [← hf (l[k]'(by omega))]
      exact (List.getElem?_eq_some_iff.1 hj).1
    have hlt : k * size + j < n * size := by
      have : (k + 1) * size ≤ n * size := Nat.mul_le_mul_right _ hk
      rw [Nat.add_mul] at this
      omega
    rw [World.ownsRow.cellAt h _ hlt, flat_at f size hf l k j _ hx hjs]
    exact hj

theorem reads_only {w w' : World} {F : List Nat} {B size n : Nat} {A : Option Addr} {xs : List Value} (h : Reads w B size A n xs) (ho : Only F w w') (ha : ∀ ad, A = some ad → ad.block < w.heap.size ∧ ad.block ∉ F) : Reads w' B size A n xs :=
  ⟨h.1, fun hn => by
    obtain ⟨ad, e, hb, hc⟩ := h.2 hn
    obtain ⟨h1, h2⟩ := ha ad e
    exact ⟨ad, e, hb, fun j u hu => (ho.cell (by rw [block_of_add]; exact h1) (by rw [block_of_add]; exact h2)).trans (hc j u hu)⟩⟩

/-! ### a cell that may be written and a range, kept through a region that draws its order -/
theorem ws_alloc {w1 : World} {a : Addr} {b o : Nat} {cs : List Value} (hlt : a.block < w1.heap.size) (h2 : w1.frozen? a = false) (h3 : w1.rangeAt b o cs) (ob : Obj) :
    (w1.alloc ob).drew.frozen? a = false ∧ (w1.alloc ob).drew.rangeAt b o cs :=
  ⟨(World.frozen?_of_block (w := w1) (Below.heap_alloc w1 ob _ hlt)).trans h2, World.rangeAt_alloc h3 ob⟩
theorem ws_grown {w1 w2 : World} {a : Addr} {b o : Nat} {cs : List Value} (hlt : a.block < w1.heap.size) (h2 : w1.frozen? a = false) (h3 : w1.rangeAt b o cs) {row : Option Nat} (hg : w1.grownBy w2 row) (ha : row ≠ some a.block) (hb : row ≠ some b) (hlb : b < w1.heap.size) :
    w2.frozen? a = false ∧ w2.rangeAt b o cs :=
  ⟨(hg.frozen_far a hlt (Ne.symm ha)).trans h2, fun j u hj => (hg.cell_far _ hlb (Ne.symm hb)).trans (h3 j u hj)⟩
theorem ws_set {w1 : World} {a : Addr} {b o : Nat} {cs : List Value} (h2 : w1.frozen? a = false) (h3 : w1.rangeAt b o cs) (p : Addr) (u : Value) (hb : b ≠ p.block) :
    (w1.setCell p u).frozen? a = false ∧ (w1.setCell p u).rangeAt b o cs :=
  ⟨by rw [World.frozen?_setCell]; exact h2, fun j x hj => (World.cell?_setCell_other _ _ _ _ (fun e => hb (by subst e; rfl))).trans (h3 j x hj)⟩

/-! ### a map whose keys are numbers -/
def keyed (es : List MapEntry) : Prop := ∀ e ∈ es, ∃ z, e.key = .int .i64 z
def keyIs (k : Int) : Value → Bool
  | .int .i64 z => k == z
  | _ => false
def find (k : Int) : List MapEntry → Option Value
  | [] => none
  | e :: es => if keyIs k e.key then some e.val else find k es
/-- block g is a map that holds f: what isn't in it is none -/
def MapAt (w : World) (g : Nat) (f : Int → Option Value) : Prop := ∃ es clock, w.heap[g]? = some (.map es clock) ∧ keyed es.toList ∧ ∀ k, find k es.toList = f k

section
variable {P : Program} {w w' : World} {g : Nat} {f : Int → Option Value}
theorem MapAt.of (h : MapAt w g f) (e : w'.heap[g]? = w.heap[g]?) : MapAt w' g f := by
  obtain ⟨es, c, h1, h2⟩ := h
  exact ⟨es, c, e.trans h1, h2⟩
theorem MapAt.lt (h : MapAt w g f) : g < w.heap.size := by
  obtain ⟨es, c, h1, _⟩ := h
  exact (Array.getElem?_eq_some_iff.1 h1).1
theorem MapAt.new (w : World) : MapAt (w.alloc (.map #[] 0)) w.heap.size (fun _ => none) :=
  ⟨#[], 0, heap_alloc_new w _, by simp [keyed], by simp [find]⟩
theorem MapAt.ne_blk {t : TypeId} {cs : Array Value} {g' : Nat} (h : MapAt w g f) (hb : Blk w g' t cs) : g ≠ g' := by
  rintro rfl
  obtain ⟨es, c, h1, _⟩ := h
  unfold Blk at hb
  rw [hb] at h1
  cases h1
theorem MapAt.ne_row {base : Nat} {e : TypeId} {size n : Nat} {v : Value} {xs : List Value} (h : MapAt w g f) (hr : w.ownsRow base e size v n xs) : v.ownBlock ≠ some g := by
  intro he
  obtain ⟨es, c, h1, _⟩ := h
  rcases hr.2 with ⟨rfl, _⟩ | ⟨g', cap, cur, rfl, _, hh, _⟩
  · simp [Value.ownBlock] at he
  · have : g' = g := by simpa [Value.ownBlock] using he
    subst this
    rw [hh] at h1
    cases h1

theorem findNow_eq (k : Int) : ∀ (es : List MapEntry) (i : Nat), keyed es →
    ∃ r, Instr.findNow (.int .i64) (.int .i64 k) es i = some r ∧ (r.map (·.2)) = find k es ∧
      (r = none → ∀ e ∈ es, keyIs k e.key = false) ∧
      ∀ j v, r = some (j, v) → i ≤ j ∧ ∃ e, es[j - i]? = some e ∧ e.key = .int .i64 k ∧ e.val = v ∧ ∀ j', j' < j - i → ∀ e', es[j']? = some e' → keyIs k e'.key = false
  | [], i, _ => ⟨none, rfl, rfl, fun _ _ h => (by cases h), fun _ _ h => by cases h⟩
  | e :: es, i, h => by
    obtain ⟨z, hz⟩ := h e (by simp)
    by_cases hk : k = z
    · subst hk
      refine ⟨some (i, e.val), by simp [Instr.findNow, Instr.sameNow, hz], by simp [find, keyIs, hz], fun h => (by cases h), ?_⟩
      intro j v hjv
      cases hjv
      exact ⟨Nat.le_refl _, e, by simp, hz, rfl, fun j' hj' => by omega⟩
    · obtain ⟨r, h1, h2, h4, h3⟩ := findNow_eq k es (i + 1) (fun e' he' => h e' (by simp [he']))
      have hb : (k == z) = false := by simpa using hk
      refine ⟨r, ?_, ?_, ?_, ?_⟩
      · simp only [Instr.findNow, Instr.sameNow, hz, if_true, hb, h1]
      · rw [h2]; simp [find, keyIs, hz, hb]
      · intro hr e' he'
        rcases List.mem_cons.1 he' with rfl | he'
        · simp [keyIs, hz, hb]
        · exact h4 hr e' he'
      · intro j v hjv
        obtain ⟨hle, e', he', hk', hv', hno⟩ := h3 j v hjv
        refine ⟨by omega, e', ?_, hk', hv', ?_⟩
        · rw [show j - i = (j - (i + 1)) + 1 by omega]; simpa using he'
        · intro j' hj' e'' he''
          cases j' with
          | zero => simp at he''; subst he''; simp [keyIs, hz, hb]
          | succ j' => exact hno j' (by omega) e'' (by simpa using he'')

theorem check_int (w : World) {kt : TypeId} (hk : P.underlying kt = some (.int .i64)) (k : Int) (b : Bool) : (Instr.checkKey b 10000 kt (.int .i64 k)).run P w = .ok () w := by
  unfold Instr.checkKey
  simp [run_underlying hk]
theorem stays_int (w : World) (k : Int) : (Instr.keyThatStays (.int .i64 k) (.int .i64 k)).run P w = .ok (.int .i64 k) w := by
  unfold Instr.keyThatStays Instr.sameBits
  simp
theorem run_lookup_map {t kt et : TypeId} {z : Value} (ht : P.underlying t = some (.map kt et)) (hk : P.underlying kt = some (.int .i64)) (hz : ∀ w, (zeroValue et).run P w = .ok z w) (h : MapAt w g f) (k : Int) :
    (Instr.lookup t (.map (some g)) (.int .i64 k) false).run P w = .ok ((f k).getD z) w := by
  obtain ⟨es, c, h1, h2, h3⟩ := h
  obtain ⟨r, hr, hf, _⟩ := findNow_eq k es.toList 0 h2
  have hck := fun b => check_int (P := P) w hk k b
  rw [h3 k] at hf
  cases hr' : r with
  | none =>
    subst hr'
    have : f k = none := by simpa using hf.symm
    simp [Instr.lookup, run_underlying ht, MapKept.run_getObj_map h1, hck, Instr.findKey, run_underlying hk, hr, this, Result.andThen]
    exact hz w
  | some p =>
    subst hr'
    have : f k = some p.2 := by simpa using hf.symm
    simp [Instr.lookup, run_underlying ht, MapKept.run_getObj_map h1, hck, Instr.findKey, run_underlying hk, hr, this, Result.andThen]

theorem find_push (k : Int) (v : Value) (c : Nat) (k' : Int) : ∀ es : List MapEntry, (∀ e ∈ es, keyIs k e.key = false) →
    find k' (es ++ [{ key := .int .i64 k, val := v, born := c }]) = if k' = k then some v else find k' es
  | [], _ => by by_cases h : k' = k <;> simp [find, keyIs, h]
  | e :: es, h => by
    have ih := find_push k v c k' es (fun e' he' => h e' (by simp [he']))
    by_cases hk : k' = k
    · subst hk
      simp only [List.cons_append, find, h e (by simp), Bool.false_eq_true, if_false, ih, if_true]
    · simp only [List.cons_append, find, ih, hk, if_false]
theorem find_modify (k : Int) (v : Value) (k' : Int) : ∀ (es : List MapEntry) (i : Nat), (∃ e, es[i]? = some e ∧ e.key = .int .i64 k) → (∀ j', j' < i → ∀ e', es[j']? = some e' → keyIs k e'.key = false) →
    find k' (es.modify i fun e => { e with key := .int .i64 k, val := v }) = if k' = k then some v else find k' es
  | [], _, h, _ => by obtain ⟨e, h, _⟩ := h; simp at h
  | e :: es, 0, h, _ => by
    obtain ⟨e', h, hk⟩ := h
    simp at h
    subst h
    by_cases hkk : k' = k
    · simp [find, keyIs, hkk]
    · have hb : (k' == k) = false := by simpa using hkk
      simp [find, keyIs, hkk, hk, hb]
  | e :: es, i + 1, h, hno => by
    have ih := find_modify k v k' es i (by simpa using h) (fun j' hj e' he' => hno (j' + 1) (by omega) e' (by simpa using he'))
    have h0 := hno 0 (by omega) e (by simp)
    by_cases hk : k' = k
    · subst hk
      simp only [List.modify_succ_cons, find, h0, Bool.false_eq_true, if_false, ih, if_true]
    · simp only [List.modify_succ_cons, find, ih, hk, if_false]
theorem keyed_modify {es : List MapEntry} (h : keyed es) (i : Nat) (k : Int) (v : Value) : keyed (es.modify i fun e => { e with key := .int .i64 k, val := v }) := by
  intro e he
  obtain ⟨j, hj, rfl⟩ := List.mem_iff_getElem.1 he
  simp only [List.getElem_modify]
  split
  · exact ⟨k, rfl⟩
  · exact h _ (List.getElem_mem _)

/-- the world behind a store into a map -/
theorem run_mapUpdate_map {t kt et : TypeId} (ht : P.underlying t = some (.map kt et)) (hk : P.underlying kt = some (.int .i64)) (h : MapAt w g f) (k : Int) (v : Value) :
    ∃ w', (Instr.mapUpdate t (.map (some g)) (.int .i64 k) v).run P w = .ok () w' ∧ MapAt w' g (fun k' => if k' = k then some v else f k') ∧ w.grownBy w' (some g) ∧ w'.heap.size = w.heap.size := by
  obtain ⟨es, c, h1, h2, h3⟩ := h
  obtain ⟨r, hr, hf, hn, hs⟩ := findNow_eq k es.toList 0 h2
  have hck := fun b => check_int (P := P) w hk k b
  cases hr' : r with
  | none =>
    subst hr'
    refine ⟨setBlock w g (.map (es.push { key := .int .i64 k, val := v, born := c }) (c + 1)), by
      simp [Instr.mapUpdate, run_underlying ht, MapKept.run_getObj_map h1, hck, Instr.findKey, run_underlying hk, hr, MapKept.run_setObj_map _ h1, Result.andThen, setBlock], ?_, ?_, by simp [setBlock]⟩
    · refine ⟨_, _, heap_setBlock_same h1 _, ?_, ?_⟩
      · intro e he
        simp only [Array.toList_push, List.mem_append, List.mem_singleton] at he
        rcases he with he | rfl
        · exact h2 e he
        · exact ⟨k, rfl⟩
      · intro k'
        rw [Array.toList_push, find_push k v c k' es.toList (hn rfl), h3]
    · exact ⟨rfl, rfl, rfl, by simp [setBlock], fun i _ hi => heap_setBlock_other h1 _ (fun e => hi (by rw [e]))⟩
  | some p =>
    subst hr'
    obtain ⟨i, u⟩ := p
    obtain ⟨_, e, he, hek, hev, hno⟩ := hs i u rfl
    simp only [Nat.sub_zero, Array.getElem?_toList] at he hno
    refine ⟨setBlock w g (.map (es.modify i fun e => { e with key := .int .i64 k, val := v }) c), by
      simp [Instr.mapUpdate, run_underlying ht, MapKept.run_getObj_map h1, hck, Instr.findKey, run_underlying hk, hr, he, hek, stays_int, MapKept.run_setObj_map _ h1, Result.andThen, setBlock], ?_, ?_, by simp [setBlock]⟩
    · refine ⟨_, _, heap_setBlock_same h1 _, ?_, ?_⟩
      · rw [Array.toList_modify]; exact keyed_modify h2 _ _ _
      · intro k'
        rw [Array.toList_modify, find_modify k v k' es.toList i ⟨e, by simpa using he, hek⟩ (fun j' hj e' he' => hno j' hj e' (by simpa using he')), h3]
    · exact ⟨rfl, rfl, rfl, by simp [setBlock], fun i _ hi => heap_setBlock_other h1 _ (fun e => hi (by rw [e]))⟩
/-- a look-up at the operation -/
theorem wpList_lookup_map {ops : Array Oper} {rest : List Oper} {o : Oper} {a : Act} {Q : Exit → Act → World → Prop} (hg : o.guard = none) (t : TypeId) (m x : Operand) (hop : o.op = Op.lookup t m x false)
    (k : Int) (v : Value) (hm : a.eval m = .map (some g)) (hx : a.eval x = .int .i64 k) (hr : (Instr.lookup t (.map (some g)) (.int .i64 k) false).run P w = .ok v w)
    (h : wpList P ops Q rest (a.put o.dst v) w) : wpList P ops Q (o :: rest) a w := by
  refine wpList_plain hg fun K' hK' => ?_
  unfold Oper.wp
  simp [execOp, hop, hm, hx, hr, Result.andThen]
  exact hK' _ _ h
end
end Go.Proofs.Ytldnghmgdmjljaa
