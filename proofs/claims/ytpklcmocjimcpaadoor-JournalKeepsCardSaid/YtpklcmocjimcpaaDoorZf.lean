/-
  What the plain disk comes to while nothing crashes. No condition.
-/
import Derived.Test.YtpklcmocjimcpaaDoorZe
import Derived.Laws.MakeOwn
import Derived.ArgAppend
import Derived.Laws.AppendOwn
import Derived.Deep.LoopGhost
import Derived.Deep.QuietTactic
import Derived.BigQuiet
import Derived.Outline
import Derived.Handy
import Derived.Sort.QuietIn

namespace Go.Proofs.YtpklcmocjimcpaaDoor
open Go.RowKit
set_option maxRecDepth 100000
theorem lastOf_snoc (i : Int) (l : List (Int × Sec)) (x : Int × Sec) : lastOf i (l ++ [x]) = if x.1 = i then some x.2 else lastOf i l := by
  unfold lastOf
  rw [List.reverse_append, List.reverse_singleton, List.singleton_append, List.find?_cons]
  by_cases h : x.1 = i
  · simp [h]
  · have : (x.1 == i) = false := by simpa using h
    rw [this, if_neg h]
theorem settled_last (f : Int → Sec) (i : Int) (l : List (Int × Sec)) : settled (fun _ => true) 0 l f i = (lastOf i l).getD (f i) := by
  have h : ∀ n (l : List (Int × Sec)), l.length = n → settled (fun _ => true) 0 l f i = (lastOf i l).getD (f i) := by
    intro n
    induction n with
    | zero => intro l hl; obtain rfl := List.eq_nil_of_length_eq_zero hl; rfl
    | succ n ih =>
      intro l hl
      rcases List.eq_nil_or_concat l with rfl | ⟨l', x, rfl⟩
      · simp at hl
      rw [List.concat_eq_append, settled_snoc, lastOf_snoc, if_pos rfl]
      have := ih l' (by simpa using hl)
      unfold upd
      by_cases hx : x.1 = i
      · rw [if_pos hx.symm, if_pos hx]; rfl
      · rw [if_neg (Ne.symm hx), if_neg hx, this]
  exact h _ l rfl
/-- nothing is off; the sectors read as f; k acts at most were done -/
structure Fine (d : DM) (f : Nat → Sec) (k : Nat) : Prop where
  up : d.gone = false
  free : d.armed = false
  six : d.n = 6
  left : d.left = 0
  steps : d.steps ≤ k
  wait : d.wait.length ≤ k
  reads : ∀ j : Nat, j < 6 → d.read j = f j
section
variable {d : DM} {f : Nat → Sec} {k : Nat}
theorem Fine.off (h : Fine d f k) : d.off = false := by simp [DM.off, h.up, h.free]
theorem Fine.new : Fine (DM.new 6) (fun _ => Sec.zero) 0 := ⟨rfl, rfl, rfl, rfl, Nat.le_refl _, Nat.le_refl _, fun j hj => by simp [DM.read, DM.new, lastOf]⟩
theorem Fine.mono (h : Fine d f k) : Fine d f (k + 1) := ⟨h.up, h.free, h.six, h.left, Nat.le_succ_of_le h.steps, Nat.le_succ_of_le h.wait, h.reads⟩
theorem Fine.has (h : Fine d f k) (j : Int) : d.has j = (decide (0 ≤ j) && decide (j < 6)) := by simp [DM.has, h.six]
theorem Fine.readErr (h : Fine d f k) (j : Nat) (hj : j < 6) : d.readErr j = 0 := by
  have := h.has j
  simp [DM.readErr, h.up, this]
  omega
theorem Fine.last (h : Fine d f k) (j : Nat) (hj : j < 6) : (lastOf j d.wait).getD (d.sure j) = f j := by
  have h1 := h.reads j hj
  have h2 := h.has j
  have h3 : d.has j = true := by rw [h2]; simp; omega
  simp [DM.read, h.up, h3] at h1
  exact h1
theorem Fine.stepErr (h : Fine d f k) : d.stepErr = 0 := by simp [DM.stepErr, h.off]
theorem Fine.flush (h : Fine d f k) : Fine d.flush f (k + 1) ∧ ∀ j : Nat, j < 6 → d.flush.sure j = f j := by
  have hs : ∀ j : Nat, j < 6 → d.flush.sure j = f j := by
    intro j hj
    simp only [DM.flush, h.off, DM.settle, DM.step, Bool.false_eq_true, if_false]
    rw [settled_last]
    exact h.last j hj
  refine ⟨⟨?_, ?_, ?_, ?_, ?_, ?_, fun j hj => ?_⟩, hs⟩
  · simp [DM.flush, h.off, DM.settle, DM.step, h.up]
  · simp [DM.flush, h.off, DM.settle, DM.step, h.free]
  · simp [DM.flush, h.off, DM.settle, DM.step, h.six]
  · simp [DM.flush, h.off, DM.settle, DM.step, h.free, h.left]
  · have := h.steps
    simp [DM.flush, h.off, DM.settle, DM.step]
    omega
  · simp [DM.flush, h.off, DM.settle]
  · have e := hs j hj
    have hh := h.has j
    have h3 : d.flush.has j = true := by
      simp [DM.has, DM.flush, h.off, DM.settle, DM.step, h.six]; omega
    have h4 : d.flush.gone = false := by simp [DM.flush, h.off, DM.settle, DM.step, h.up]
    have h5 : d.flush.wait = [] := by simp [DM.flush, h.off, DM.settle]
    simp [DM.read, h3, h4, h5, lastOf, e]
theorem Fine.bad (h : Fine d f k) {i : Int} (hi : ¬ (0 ≤ i ∧ i < 6)) (s : Sec) : d.write i s = d ∧ d.writeErr i = 1 := by
  have hh : d.has i = false := by
    rw [h.has, Bool.and_eq_false_iff]
    simp
    omega
  exact ⟨by simp [DM.write, hh], by simp [DM.writeErr, hh]⟩
theorem Fine.write (h : Fine d f k) {i : Int} (h0 : 0 ≤ i) (h6 : i < 6) (s : Sec) : Fine (d.write i s) (fun j => if j = i.toNat then s else f j) (k + 1) ∧ d.writeErr i = 0 := by
  have hh : d.has i = true := by
    rw [h.has]
    simp
    omega
  have e : d.write i s = { d.step with wait := d.wait ++ [(i, s)] } := by simp [DM.write, hh, h.off]
  have es : d.step = { d with steps := d.steps + 1, left := d.left } := by simp [DM.step, h.off, h.free]
  refine ⟨?_, by simp [DM.writeErr, hh, h.off]⟩
  rw [e, es]
  refine ⟨h.up, h.free, h.six, h.left, by have := h.steps; show d.steps + 1 ≤ _; omega, by have := h.wait; show (d.wait ++ [(i, s)]).length ≤ _; simp; omega, fun j hj => ?_⟩
  have h1 := h.last j hj
  have h2 : d.has j = true := by rw [h.has]; simp; omega
  have h3 : DM.has { n := d.n, sure := d.sure, wait := d.wait ++ [(i, s)], steps := d.steps + 1, armed := d.armed, left := d.left, gone := d.gone } j = true := h2
  unfold DM.read
  rw [h3]
  simp only [h.up, Bool.not_true, Bool.or_false, Bool.false_eq_true, if_false]
  rw [lastOf_snoc]
  by_cases hx : i = (j : Int)
  · rw [if_pos hx, if_pos (by omega)]; rfl
  · rw [if_neg hx, if_neg (by omega)]; exact h1
end
end Go.Proofs.YtpklcmocjimcpaaDoor

/-
  The plain answers of layer 2: a step. No condition.
-/
namespace Go.Proofs.YtpklcmocjimcpaaDoor
open Go.RowKit
set_option maxRecDepth 100000
set_option linter.unusedSimpArgs false
set_option linter.unusedVariables false
/-- how the plain disk stands, beside its rows -/
structure RS where
  steps : Nat
  left : Nat
  armed : Bool
  gone : Bool
def rcs (A : Option Addr) (n c : Nat) (A' : Option Addr) (n' c' : Nat) (r : RS) : Array Value := #[.slice A n c, .slice A' n' c', .int .i64 r.steps, .int .i64 r.left, .bool r.armed, .bool r.gone]
def RS.off (r : RS) : Bool := r.gone || (r.armed && decide (r.left = 0))
def RS.step (r : RS) : RS := if r.off then { r with gone := true } else { r with steps := r.steps + 1, left := if r.armed then r.left - 1 else r.left }
theorem results_cell_tmp {P : Program} {fn : Func} {p q : Tmp} {ty : TypeId} (h : fn.results = #[.cell p ty, .tmp q]) (tmps : Array Value) (w : World) (g : Nat) (t : TypeId) (cs : Array Value) (fr : Nat × Nat) (d : TypeDesc) (v : Value)
    (hp : tmps.getD p undef = .pointer (some ⟨g, 0, none⟩)) (hq : tmps.getD q undef = v) (hg : w.heap[g]? = some (.cells cs t fr))
    (hu : P.underlying ty = some d) (hd : (match d with | .struct _ | .array _ _ => true | _ => false) = true) (hi : (P.info? ty).map (·.size) = some cs.size) :
    (results fn tmps).run P w = .ok (.tuple #[.agg cs, v]) w := by
  have hp' : tmps[p]?.getD undef = .pointer (some ⟨g, 0, none⟩) := by simpa using hp
  have hq' : tmps[q]?.getD undef = v := by simpa using hq
  simp [results, h, hp', hq', asAddr, run_loadVar_row w g t ty cs fr d hg hu hd hi]
theorem two_allocs (w : World) (o o' : Obj) : ((w.alloc o).alloc o').heap[w.heap.size + 1]? = some o' := by
  have := heap_alloc_new (w.alloc o) o'
  rwa [World.size_alloc] at this
theorem two_below (w : World) (o o' : Obj) : Below w.heap.size w ((w.alloc o).alloc o') := ((Below.refl _ _).alloc (Nat.le_refl _) _).alloc (by simp) _
end Go.Proofs.YtpklcmocjimcpaaDoor

/-
  The plain disk's New. No condition.
-/
namespace Go.Proofs.YtpklcmocjimcpaaDoor
open Go.RowKit
set_option maxRecDepth 100000
set_option linter.unusedSimpArgs false
set_option linter.unusedVariables false
theorem zero_cs : Sec.zero.cs = List.replicate 128 (.int .u8 0) := by simp [Sec.zero, Sec.cs, u8s, u8]
theorem zeros_flat : ∀ n, (List.replicate n Sec.zero).flatMap Sec.cs = List.replicate (n * 128) (Value.int .u8 0)
  | 0 => by simp
  | n + 1 => by rw [List.replicate_succ, List.flatMap_cons, zeros_flat n, zero_cs, List.replicate_append_replicate]; congr 1; omega
theorem made_zeros (n : Nat) : madeCells Sec.zero.v.cells (n * 128) = ((List.replicate n Sec.zero).flatMap Sec.cs).toArray := by
  rw [zeros_flat]
  have e : Sec.zero.v.cells = (List.replicate 128 (Value.int .u8 0)).toArray := by rw [← zero_cs]; rfl
  rw [e]
  exact made_same 128 _ _ (by omega)
end Go.Proofs.YtpklcmocjimcpaaDoor

/-
  What a sector may be: six slices of sectors that the call made, each a row in a block of its own; what each holds beside the plain disk. No condition.
-/
namespace Go.Proofs.YtpklcmocjimcpaaDoor
open Go.RowKit
set_option maxRecDepth 100000
set_option linter.unusedSimpArgs false
set_option linter.unusedVariables false
/-- the slice v holds the sectors l, in block g of the call's own, at whatever place in it -/
def SecRow (w : World) (base g : Nat) (v : Value) (l : List Sec) : Prop :=
  ∃ off cap cur, v = .slice (some ⟨g, off, none⟩) l.length cap ∧ base ≤ g ∧ w.heap[g]? = some (.cells cur 90 (0, 0)) ∧ 0 < l.length ∧ l.length ≤ cap ∧ cap ≤ maxLen ∧ cur.size = off + cap * 128 ∧
    ∀ j u, (l.flatMap Sec.cs)[j]? = some u → cur[off + j]? = some u
section
variable {w w' : World} {base g : Nat} {v : Value} {l : List Sec}
theorem flat_len (l : List Sec) : (l.flatMap Sec.cs).length = l.length * 128 := by
  induction l with
  | nil => rfl
  | cons s l ih => rw [List.flatMap_cons, List.length_append, ih, Sec.cs_len, List.length_cons]; omega
theorem flat_one (l : List Sec) : ∀ u ∈ l.flatMap Sec.cs, u.oneCell' = true := by
  intro u hu
  obtain ⟨s, _, h⟩ := List.mem_flatMap.1 hu
  exact s.one u h
theorem SecRow.of (h : SecRow w base g v l) (e : w'.heap[g]? = w.heap[g]?) : SecRow w' base g v l := by
  obtain ⟨off, cap, cur, h1, h2, h3, r⟩ := h
  exact ⟨off, cap, cur, h1, h2, e.trans h3, r⟩
theorem SecRow.lt (h : SecRow w base g v l) : g < w.heap.size := by
  obtain ⟨off, cap, cur, h1, h2, h3, r⟩ := h
  exact (Array.getElem?_eq_some_iff.1 h3).1
theorem SecRow.over (h : SecRow w base g v l) : base ≤ g := by
  obtain ⟨off, cap, cur, h1, h2, h3, r⟩ := h
  exact h2
theorem SecRow.new (w : World) (s : Sec) {base : Nat} (hb : base ≤ w.heap.size) : SecRow (w.alloc (.cells s.cs.toArray 90)) base w.heap.size (.slice (some ⟨w.heap.size, 0, none⟩) 1 1) [s] :=
  ⟨0, 1, s.cs.toArray, rfl, hb, heap_alloc_new w _, by simp, by simp, by simp [maxLen], by simp [Sec.cs_len], fun j u hu => by simpa using hu⟩
theorem SecRow.of_own {v' : Value} (h : w.ownsRow base 90 128 v' l.length (l.flatMap Sec.cs)) (hl : 0 < l.length) : ∃ g, SecRow w base g v' l ∧ v'.ownBlock = some g := by
  rcases h.2 with ⟨_, h0⟩ | ⟨g, cap, cur, hv, hb, hg, hn, hm, hs, ht⟩
  · omega
  · refine ⟨g, ⟨0, cap, cur, hv, hb, hg, hl, hn, hm, by omega, fun j u hu => ?_⟩, by rw [hv]; rfl⟩
    rw [← ht, List.getElem?_take] at hu
    split at hu
    · simpa using hu
    · cases hu
/-- the slice as the walk finds it, and its sectors -/
theorem SecRow.get (h : SecRow w base g v l) : ∃ off cap, v = .slice (some ⟨g, off, none⟩) l.length cap ∧ l.length ≤ cap ∧ cap ≤ maxLen ∧ (∀ k s, l[k]? = some s → w.rangeAt g (off + k * 128) s.cs) := by
  obtain ⟨off, cap, cur, h1, h2, h3, h4, h5, h6, h7, h8⟩ := h
  refine ⟨off, cap, h1, h5, h6, fun k s hk j u hj => ?_⟩
  have hlt : j < 128 := by
    rcases Nat.lt_or_ge j 128 with h' | h'
    · exact h'
    · rw [List.getElem?_eq_none (by rw [Sec.cs_len]; omega)] at hj; cases hj
  rw [cell_of_row w g _ cur _ _ h3, Nat.add_assoc]
  exact h8 _ _ (by rw [flat_at Sec.cs 128 (fun s => s.cs_len) l k j s hk hlt]; exact hj)
/-- the last of them, as the walk cuts it -/
theorem SecRow.last {off cap : Nat} {l' : List Sec} {s : Sec} (h : SecRow w base g (.slice (some ⟨g, off, none⟩) (l' ++ [s]).length cap) (l' ++ [s])) : SecRow w base g (.slice (some ⟨g, off + l'.length * 128, none⟩) 1 (cap - l'.length)) [s] := by
  obtain ⟨off', cap', cur, h1, h2, h3, h4, h5, h6, h7, h8⟩ := h
  simp only [Value.slice.injEq, Option.some.injEq, Addr.mk.injEq, and_true, true_and] at h1
  obtain ⟨rfl, rfl⟩ := h1
  simp only [List.length_append, List.length_singleton] at h5
  refine ⟨off + l'.length * 128, cap - l'.length, cur, rfl, h2, h3, by simp, by simp; omega, by omega, by rw [h7, Nat.sub_mul]; have := Nat.mul_le_mul_right 128 (show l'.length ≤ cap by omega); omega, fun j u hj => ?_⟩
  rw [Nat.add_assoc]
  refine h8 _ _ ?_
  rw [List.flatMap_append, List.getElem?_append_right (by rw [flat_len]; omega), flat_len, Nat.add_sub_cancel_left]
  exact hj
theorem SecRow.app {P : Program} {t ty : TypeId} {i : TypeInfo} {z : Value} (ht : P.underlying t = some (.slice 90)) (hi : P.info? 90 = some i) (hz : i.zero = some z) (hsize : i.size = 128) (hby : i.bytes = 128) (hzs : z.cells.size = 128)
    (h : SecRow w base g v l) (hl : l.length ≤ 1000000) (hbase : base ≤ w.heap.size) {A : Addr} {c : Nat} {s : Sec} (hr : ∀ j u, s.cs[j]? = some u → w.cell? (A.add j) = some u) :
    ∃ v' w' g', (Builtin.append_ #[t, t] ty #[v, .slice (some A) 1 c]).run P w = .ok v' w' ∧ SecRow w' base g' v' (l ++ [s]) ∧ Only [g] w w' ∧ (g' = g ∨ w.heap.size ≤ g') := by
  obtain ⟨off, cap, cur, rfl, h2, h3, h4, h5, h6, h7, h8⟩ := h
  have hfl := flat_len l
  have hfs : (l ++ [s]).flatMap Sec.cs = l.flatMap Sec.cs ++ s.cs := by simp
  by_cases hroom : l.length + 1 ≤ cap
  · have hsz : off + l.length * 128 + 128 ≤ cur.size := by
      have := Nat.mul_le_mul_right 128 hroom
      rw [h7]; omega
    have hB : Blk w g 90 cur.toList.toArray := by unfold Blk; rw [h3]
    have hrun := run_append_room_cells (P := P) w t ty _ i ht hi g off l.length cap A 1 c s.cs (by rw [hsize, Sec.cs_len]) hr s.one hroom
      (fun j hj => by rw [Sec.cs_len] at hj; rw [hsize, hB.cell]; simp; omega) (fun j hj => hB.frozen _)
    rw [hsize] at hrun
    have hset := setCells_any s.cs (off + l.length * 128) hB (by rw [Sec.cs_len]; simpa using hsz)
    refine ⟨_, _, g, hrun, ⟨off, cap, _, by rw [List.length_append]; rfl, h2, hset, by simp, by simp; omega, h6, ?_, fun j u hj => ?_⟩, (Only.refl _ _).grown (setCells_grown g s.cs _ w).1 (fun k e => .inl (by injection e with e; simp [e])), .inl rfl⟩
    · simp [Sec.cs_len]; omega
    · rw [hfs] at hj
      rw [List.getElem?_toArray, List.append_assoc]
      by_cases hjl : j < l.length * 128
      · rw [List.getElem?_append_left (by rw [hfl]; exact hjl)] at hj
        rw [List.getElem?_append_left (by simp; omega), List.getElem?_take, if_pos (by omega)]
        have := h8 _ _ hj
        simpa using this
      · rw [List.getElem?_append_right (by rw [hfl]; omega), hfl] at hj
        have hj2 : j - l.length * 128 < s.cs.length := by
          rcases Nat.lt_or_ge (j - l.length * 128) s.cs.length with h' | h'
          · exact h'
          · rw [List.getElem?_eq_none h'] at hj; cases hj
        have hlt : (cur.toList.take (off + l.length * 128)).length = off + l.length * 128 := by simp; omega
        rw [List.getElem?_append_right (by rw [hlt]; omega), hlt, List.getElem?_append_left (by omega), ← hj]
        congr 1
        omega
  · have holds : ∀ j u, (l.flatMap Sec.cs)[j]? = some u → w.cell? ((⟨g, off, none⟩ : Addr).add j) = some u := fun j u hj => by
      rw [Addr.add_mid, cell_of_row w g _ cur _ _ h3]; exact h8 _ _ hj
    obtain ⟨v', w', hrun, hown, hg⟩ := run_append_arg_grows (P := P) w t ty _ i z 128 128 ht hi hz hsize hby hzs (by omega) ⟨g, off, none⟩ l.length cap (l.flatMap Sec.cs) hfl holds A 1 c s.cs (by rw [Sec.cs_len]) hr (by omega) (by simp [maxLen]; omega) (by omega)
    rw [← hfs, show l.length + 1 = (l ++ [s]).length by simp] at hown
    obtain ⟨g', h', hob⟩ := SecRow.of_own (row_weaken hown hbase) (by simp)
    refine ⟨v', w', g', hrun, h', (Only.refl _ _).grown hg (fun k e => by cases e), .inr ?_⟩
    exact (World.ownsRow.lt hown g' hob).1
end
def mayBlocks (gl n : Nat) (R : Nat → Nat) : List Nat := gl :: (List.range n).map R
theorem mem_may {gl n : Nat} {R : Nat → Nat} {k : Nat} : k ∈ mayBlocks gl n R ↔ k = gl ∨ ∃ j, j < n ∧ R j = k := by simp [mayBlocks]
section
variable {w w' : World} {base gl n : Nat} {R : Nat → Nat} {vs : Nat → Value} {L : Nat → List Sec}
theorem SecRow.ne_blk {base g gl : Nat} {v : Value} {l : List Sec} {t : TypeId} {cs : Array Value} (h : SecRow w base g v l) (hb : Blk w gl t cs) (ht : t ≠ 90) : g ≠ gl := by
  rintro rfl
  obtain ⟨off, cap, cur, h1, h2, h3, r⟩ := h
  unfold Blk at hb
  rw [h3] at hb
  injection hb with hb
  injection hb with _ hb
  exact ht hb.symm
theorem set_vs (vs : Nat → Value) (v : Value) (j : Nat) : ((List.range 6).map vs).toArray.setIfInBounds j v = ((List.range 6).map (fun i => if i = j then v else vs i)).toArray := by
  apply Array.ext_getElem?
  intro k
  simp only [List.setIfInBounds_toArray, List.getElem?_toArray, List.getElem?_set, List.length_map, List.length_range, List.getElem?_map]
  by_cases hk : j = k
  · subst hk
    by_cases h6 : j < 6
    · simp [h6]
    · simp [h6]
  · rw [if_neg hk]
    by_cases h6 : k < 6
    · simp [h6, Ne.symm hk]
    · simp [h6]
end
/-- a disk beside rows, of which one grew or came anew and was stored -/
theorem Holds.rows {w0 w w' : World} {g gl n m j g' : Nat} {d : DM} {R : Nat → Nat} {v' : Value} (h : Holds w0 w g d (mayBlocks gl n R)) (hm : m ≤ n + 1) (hmj : m = n + 1 → j = n) (ho : Only (mayBlocks gl n R) w w') (hO : Over w0.heap.size (mayBlocks gl n R)) (hg : (j < n ∧ g' = R j) ∨ w.heap.size ≤ g') (hlt : g' < w'.heap.size) :
    Holds w0 (w'.setCell ⟨gl, j, none⟩ v') g d (mayBlocks gl m (fun i => if i = j then g' else R i)) := by
  obtain ⟨F, h1, h2, h3⟩ := h
  have ho' : Only (mayBlocks gl n R) w (w'.setCell ⟨gl, j, none⟩ v') := ho.setCell (.inl (mem_may.2 (.inl rfl))) _
  refine ⟨F, h1.of (fun k hk => ho'.block k (h1.under k hk) (fun hm => (h3 k hm).1 hk)), h2.trans (ho'.below hO h2.size), fun k hk => ?_⟩
  have hs := ho'.size
  have hlt' : g' < (w'.setCell ⟨gl, j, none⟩ v').heap.size := by simpa [World.setCell] using hlt
  have hold : ∀ k ∈ mayBlocks gl n R, k ∉ F ∧ k < (w'.setCell ⟨gl, j, none⟩ v').heap.size := fun k hk => ⟨(h3 k hk).1, Nat.lt_of_lt_of_le (h3 k hk).2 hs⟩
  rcases mem_may.1 hk with rfl | ⟨i, hi, rfl⟩
  · exact hold k (mem_may.2 (.inl rfl))
  · by_cases hij : i = j
    · simp only [hij, if_true]
      rcases hg with ⟨hj, rfl⟩ | hg
      · exact hold _ (mem_may.2 (.inr ⟨j, hj, rfl⟩))
      · exact ⟨fun hF => by have := h1.under _ hF; omega, hlt'⟩
    · simp only [hij, if_false]
      refine hold _ (mem_may.2 (.inr ⟨i, ?_, rfl⟩))
      by_cases hmn : m = n + 1
      · have := hmj hmn; omega
      · omega
theorem wp_append_row {P : Program} {w : World} {base g : Nat} {v : Value} {l : List Sec} {o : Oper} {a : Act} {K : Act → World → Prop} {Q : Exit → Act → World → Prop} (s x : Operand) (t : TypeId)
    (ho : o.op = .call { callee := .builtin .append, args := #[s, x], argTypes := #[t, t] }) (hs : a.eval s = v) {i : TypeInfo} {z : Value} (ht : P.underlying t = some (.slice 90)) (hi : P.info? 90 = some i) (hz : i.zero = some z) (hsize : i.size = 128) (hby : i.bytes = 128) (hzs : z.cells.size = 128)
    (h : SecRow w base g v l) (hl : l.length ≤ 1000000) (hbase : base ≤ w.heap.size) {A : Addr} {c : Nat} (hx : a.eval x = .slice (some A) 1 c) {sec : Sec} (hr : ∀ j u, sec.cs[j]? = some u → w.cell? (A.add j) = some u)
    (hk : ∀ v' w' g', SecRow w' base g' v' (l ++ [sec]) → Only [g] w w' → (g' = g ∨ w.heap.size ≤ g') → K (a.put o.dst v') w') : o.wp P a w K Q := by
  obtain ⟨v', w', g', hrun, h1, h2, h3⟩ := SecRow.app (P := P) (ty := o.type) ht hi hz hsize hby hzs h hl hbase (c := c) hr
  unfold Oper.wp execOp
  simp only [ho, resolve, invoke, builtin, Sem.run_bind, Sem.run_pure, Result.andThen_ok, List.map_toArray, List.map_cons, List.map_nil, hs, hx, hrun]
  exact hk v' w' g' h1 h2 h3
theorem row_same (R : Nat → Nat) (j : Nat) : (fun i => if i = j then R j else R i) = R := by
  funext i
  by_cases h : i = j
  · simp [h]
  · simp [h]
theorem range_below {w w' : World} {g o : Nat} {cs : List Value} (h : w.rangeAt g o cs) (hb : Below w.heap.size w w') (hg : g < w.heap.size) : w'.rangeAt g o cs := fun j u hj => (hb.cell (p := ⟨g, o + j, none⟩) hg).trans (h j u hj)
theorem wpListG_sec_eq {ops : Array Oper} {rest : List Oper} {op : Oper} {a : Act} {w : World} {Q : Exit → Act → World → Prop} (hw : Region.wanted op (yielded ops a.tmps) = true) (x y : Operand) (ho : op.op = .binOp .eql 90 x y 90)
    (s t : Sec) (hx : a.eval x = .agg s.cs.toArray) (hy : a.eval y = .agg t.cs.toArray)
    (h : wpList Tryd.prog ops Q rest (a.put op.dst (.bool (secEq s t))) w) : wpList Tryd.prog ops Q (op :: rest) a w :=
  wpList_wanted hw fun _ hK => by
    refine wp_ran (v := .bool (secEq s t)) (w' := w) ?_ (hK _ _ h)
    have := run_sec_eq s t w
    simp [execOp, ho, hx, hy, this, run_sec_guard, Result.andThen]
theorem run_index_six {P : Program} (t e : TypeId) (cs : List Value) (j : Nat) (v : Value) (h : P.underlying t = some (.array 6 e)) (hi : (P.info? e).map (·.size) = some 1) (ha : ∀ w, (isAgg e).run P w = .ok false w) (hj : j < 6) (hv : cs[j]? = some v) (w : World) :
    (Instr.index t (.agg cs.toArray) (.int .i64 j)).run P w = .ok v w := by
  cases hq : P.info? e with
  | none => simp [hq] at hi
  | some i =>
    simp [hq] at hi
    have h6 : (j : Int) < 6 := by omega
    simp [Instr.index, run_underlying h, asIntOf, h6, hj, ha, Result.andThen, sizeOf, typeInfo, hq, hi, hv, go_sem]
/-- what a disk that isn't armed has come to, beside what each sector may be; k acts at most were done -/
structure Whole (d : DM) (L : Nat → List Sec) (k : Nat) : Prop where
  up : d.gone = false
  free : d.armed = false
  six : d.n = 6
  left : d.left = 0
  steps : d.steps ≤ k
  wait : d.wait.length ≤ k
  rows : ∀ j : Nat, j < 6 → L j = d.sure j :: (d.wait.filter fun x => x.1 == (j : Int)).map (·.2)
section
variable {d : DM} {L : Nat → List Sec} {k : Nat}
theorem Whole.off (h : Whole d L k) : d.off = false := by simp [DM.off, h.up, h.free]
theorem Whole.new : Whole (DM.new 6) (fun _ => [Sec.zero]) 0 := ⟨rfl, rfl, rfl, rfl, Nat.le_refl _, Nat.le_refl _, fun j hj => by simp [DM.new]⟩
theorem Whole.mono (h : Whole d L k) : Whole d L (k + 1) := ⟨h.up, h.free, h.six, h.left, Nat.le_succ_of_le h.steps, Nat.le_succ_of_le h.wait, h.rows⟩
theorem Whole.has (h : Whole d L k) (j : Int) : d.has j = (decide (0 ≤ j) && decide (j < 6)) := by simp [DM.has, h.six]
theorem Whole.stepErr (h : Whole d L k) : d.stepErr = 0 := by simp [DM.stepErr, h.off]
theorem Whole.long (h : Whole d L k) (j : Nat) (hj : j < 6) : 0 < (L j).length ∧ (L j).length ≤ k + 1 := by
  rw [h.rows j hj]
  have := List.length_filter_le (fun x : Int × Sec => x.1 == (j : Int)) d.wait
  have := h.wait
  simp
  omega
theorem Whole.bad (h : Whole d L k) {i : Int} (hi : ¬ (0 ≤ i ∧ i < 6)) (s : Sec) : d.write i s = d ∧ d.writeErr i = 1 := by
  have hh : d.has i = false := by
    rw [h.has, Bool.and_eq_false_iff]
    simp
    omega
  exact ⟨by simp [DM.write, hh], by simp [DM.writeErr, hh]⟩
theorem Whole.write (h : Whole d L k) {i : Nat} (h6 : i < 6) (s : Sec) : Whole (d.write i s) (fun j => if j = i then L i ++ [s] else L j) (k + 1) ∧ d.writeErr i = 0 := by
  have hh : d.has i = true := by
    rw [h.has]
    simp
    omega
  have e : d.write i s = { d.step with wait := d.wait ++ [((i : Int), s)] } := by simp [DM.write, hh, h.off]
  have es : d.step = { d with steps := d.steps + 1, left := d.left } := by simp [DM.step, h.off, h.free]
  refine ⟨?_, by simp [DM.writeErr, hh, h.off]⟩
  rw [e, es]
  refine ⟨h.up, h.free, h.six, h.left, by have := h.steps; show d.steps + 1 ≤ _; omega, by have := h.wait; show (d.wait ++ [((i : Int), s)]).length ≤ _; simp; omega, fun j hj => ?_⟩
  show _ = d.sure j :: ((d.wait ++ [((i : Int), s)]).filter fun x => x.1 == (j : Int)).map (·.2)
  rw [List.filter_append, List.map_append]
  by_cases hij : j = i
  · subst hij
    simp only [if_true, h.rows j hj]
    simp
  · have hb : ((i : Int) == (j : Int)) = false := by simp; omega
    simp only [hij, if_false, h.rows j hj]
    simp [hb]
theorem last_rows (j : Int) (a : Sec) : ∀ (l : List (Int × Sec)), (lastOf j l).getD a = (a :: (l.filter fun x => x.1 == j).map (·.2)).getLast (by simp) := by
  have h : ∀ n (l : List (Int × Sec)), l.length = n → (lastOf j l).getD a = (a :: (l.filter fun x => x.1 == j).map (·.2)).getLast (by simp) := by
    intro n
    induction n with
    | zero => intro l hl; obtain rfl := List.eq_nil_of_length_eq_zero hl; rfl
    | succ n ih =>
      intro l hl
      rcases List.eq_nil_or_concat l with rfl | ⟨l', x, rfl⟩
      · simp at hl
      have := ih l' (by simpa using hl)
      simp only [List.concat_eq_append, lastOf_snoc, List.filter_append, List.map_append]
      by_cases hx : x.1 = j
      · have hb : (x.1 == j) = true := by simpa using hx
        simp [hx, List.filter_cons, List.getLast_cons]
      · have hb : (x.1 == j) = false := by simpa using hx
        simp only [hx, if_false, this]
        simp [hb]
  exact fun l => h _ l rfl
theorem Whole.flush (h : Whole d L k) : Whole d.flush (fun j => [(L j).getLastD Sec.zero]) (k + 1) := by
  refine ⟨?_, ?_, ?_, ?_, ?_, ?_, fun j hj => ?_⟩
  · simp [DM.flush, h.off, DM.settle, DM.step, h.up]
  · simp [DM.flush, h.off, DM.settle, DM.step, h.free]
  · simp [DM.flush, h.off, DM.settle, DM.step, h.six]
  · simp [DM.flush, h.off, DM.settle, DM.step, h.free, h.left]
  · have := h.steps
    simp [DM.flush, h.off, DM.settle, DM.step]
    omega
  · simp [DM.flush, h.off, DM.settle]
  · have e1 : d.flush.wait = [] := by simp [DM.flush, h.off, DM.settle]
    have e2 : d.flush.sure j = (L j).getLastD Sec.zero := by
      simp only [DM.flush, h.off, DM.settle, DM.step, Bool.false_eq_true, if_false]
      rw [settled_last, last_rows, h.rows j hj]
      rfl
    rw [e1, e2]
    rfl
theorem settled_mem (kept : Nat → Bool) (j : Int) : ∀ (l : List (Int × Sec)) (n : Nat) (f : Int → Sec), settled kept n l f j ∈ f j :: (l.filter fun x => x.1 == j).map (·.2)
  | [], n, f => by simp [settled]
  | x :: l, n, f => by
    have := settled_mem kept j l (n + 1) (if kept n then (fun k => if k = x.1 then x.2 else f k) else f)
    rw [settled]
    rcases List.mem_cons.1 this with h | h
    · rw [h]
      by_cases hk : kept n = true
      · rw [if_pos hk]
        by_cases hx : j = x.1
        · subst hx; simp
        · simp [hx]
      · rw [if_neg hk]; simp
    · simp only [List.filter_cons]
      split
      · simp only [List.map_cons, List.mem_cons]
        exact .inr (.inr h)
      · exact List.mem_cons_of_mem _ h
theorem Whole.crash (h : Whole d L k) (keep : List Bool) : (d.crash keep).gone = false ∧ (d.crash keep).wait = [] ∧ ∀ j : Nat, j < 6 → (d.crash keep).read j ∈ L j ∧ (d.crash keep).readErr j = 0 ∧ (d.crash keep).sure j = (d.crash keep).read j := by
  refine ⟨rfl, rfl, fun j hj => ?_⟩
  have hh : (d.crash keep).has j = true := by
    simp [DM.has, DM.crash, DM.restore, DM.settle, h.six]; omega
  have hr : (d.crash keep).read j = (d.crash keep).sure j := by
    unfold DM.read
    rw [hh]
    simp [DM.crash, DM.restore, DM.settle, lastOf]
  refine ⟨?_, by unfold DM.readErr; rw [hh]; simp [DM.crash, DM.restore], hr.symm⟩
  rw [hr, h.rows j hj]
  exact settled_mem _ _ _ _ _
end
end Go.Proofs.YtpklcmocjimcpaaDoor

/-
  The plain disk's done: the sectors behind writes. Conditions: the rows read as they are said to; each write's number is a sector's.
-/
namespace Go.Proofs.YtpklcmocjimcpaaDoor
open Go.RowKit
set_option maxRecDepth 100000
set_option linter.unusedSimpArgs false
set_option linter.unusedVariables false
/-- a plain write, as cells -/
def rwc (x : Int × Sec) : List Value := .int .i64 x.1 :: x.2.cs
theorem rwc_len (x : Int × Sec) : (rwc x).length = 129 := by simp [rwc, Sec.cs_len]
theorem rwc_one (x : Int × Sec) : ∀ u ∈ rwc x, u.oneCell' = true := by
  intro u hu
  rcases List.mem_cons.1 hu with rfl | hu
  · rfl
  · exact x.2.one u hu
/-- an element of a row that is read -/
theorem reads_at {α : Type} {f : α → List Value} {size : Nat} (hf : ∀ x, (f x).length = size) {w : World} {B : Nat} {A : Option Addr} {l : List α} (h : Reads w B size A l.length (l.flatMap f)) {k : Nat} (hk : k < l.length) :
    ∃ ad x, A = some ad ∧ ad.block < B ∧ l[k]? = some x ∧ ∀ j u, (f x)[j]? = some u → w.cell? (ad.add (k * size + j)) = some u := by
  obtain ⟨ad, e, hb, hc⟩ := h.2 (by omega)
  have hx : l[k]? = some (l[k]'hk) := List.getElem?_eq_getElem hk
  refine ⟨ad, _, e, hb, hx, fun j u hj => hc _ _ ?_⟩
  have hjs : j < size := by
    rw [← hf (l[k]'hk)]
    exact (List.getElem?_eq_some_iff.1 hj).1
  rw [flat_at f size hf l k j _ hx hjs]
  exact hj
theorem six_flat (f : Nat → Sec) (n : Nat) : sixCells f n = ((List.range n).map f).flatMap Sec.cs := by
  unfold sixCells
  rw [List.flatMap_map]
theorem six_cells_one (f : Nat → Sec) (n : Nat) : ∀ u ∈ sixCells f n, u.oneCell' = true := by
  intro u hu
  obtain ⟨i, _, h⟩ := List.mem_flatMap.1 hu
  exact (f i).one u h
theorem take_put {α : Type} (l : List α) (o N : Nat) (s : List α) (h : o + s.length ≤ N) (hN : N ≤ l.length) : (l.take o ++ s ++ l.drop (o + s.length)).take N = (l.take N).take o ++ s ++ (l.take N).drop (o + s.length) := by
  have hl : (l.take o ++ s).length = o + s.length := by simp; omega
  rw [List.take_take, Nat.min_eq_left (by omega), List.drop_take, List.take_append, List.take_of_length_le (l := l.take o ++ s) (by omega), hl]
/-- a sector of a row of the call's own is written over -/
theorem row_put {w : World} {base g n c : Nat} {e : TypeId} {f : Nat → Sec} (s : Sec) {i : Nat} (h : w.ownsRow base e 128 (.slice (some ⟨g, 0, none⟩) n c) n (sixCells f n)) (hi : i < n) :
    (w.setCells g (i * 128) s.cs).ownsRow base e 128 (.slice (some ⟨g, 0, none⟩) n c) n (sixCells (fun j => if j = i then s else f j) n) := by
  rcases h.2 with ⟨hv, _⟩ | ⟨g', cap, cur, hv, hbg, hg, hnc, hm, hs, ht⟩
  · cases hv
  · injection hv with h1 h2 h3
    injection h1 with h1
    injection h1 with h1 _ _
    subst h1 h3
    have hB : Blk w g e cur.toList.toArray := by unfold Blk; rw [hg]
    have hsz : n * 128 ≤ c * 128 := Nat.mul_le_mul_right _ hnc
    have hin : i * 128 + 128 ≤ n * 128 := by have := Nat.mul_le_mul_right 128 hi; rw [Nat.succ_mul] at this; omega
    have hcl : cur.toList.length = c * 128 := by simpa using hs
    have hset := setCells_any s.cs (i * 128) hB (by rw [Sec.cs_len, hcl]; omega)
    refine ⟨six_len _ _, .inr ⟨g, c, _, rfl, hbg, hset, hnc, hm, ?_, ?_⟩⟩
    · simp [Sec.cs_len, hs]; omega
    · rw [← six_put f s n i hi, ← ht]
      exact take_put _ _ _ _ (by rw [Sec.cs_len]; exact hin) (by rw [hcl]; exact hsz)
theorem row_there {w : World} {base g n c : Nat} {e : TypeId} {xs : List Value} (h : w.ownsRow base e 128 (.slice (some ⟨g, 0, none⟩) n c) n xs) {i : Nat} (hi : i < n) : w.there g (i * 128) 128 := by
  rcases h.2 with ⟨hv, _⟩ | ⟨g', cap, cur, hv, hbg, hg, hnc, hm, hs, ht⟩
  · cases hv
  · injection hv with h1 h2 h3
    injection h1 with h1
    injection h1 with h1 _ _
    subst h1 h3
    have hsz : n * 128 ≤ c * 128 := Nat.mul_le_mul_right _ hnc
    have hin : i * 128 + 128 ≤ n * 128 := by have := Nat.mul_le_mul_right 128 hi; rw [Nat.succ_mul] at this; omega
    exact Blk.there (t := e) (cs := cur) hg (by omega)
theorem row_same_cells {w : World} {base n : Nat} {e : TypeId} {v : Value} {f f' : Nat → Sec} (h : w.ownsRow base e 128 v n (sixCells f n)) (hf : ∀ i, i < n → f' i = f i) : w.ownsRow base e 128 v n (sixCells f' n) := by
  have : sixCells f' n = sixCells f n := by
    unfold sixCells
    have h1 : (List.range n).map (fun i => (f' i).cs) = (List.range n).map (fun i => (f i).cs) := List.map_congr_left fun i hi => by rw [hf i (List.mem_range.1 hi)]
    rw [List.flatMap_def, List.flatMap_def, h1]
  rw [this]
  exact h
theorem add_nought (p : Addr) : p.add 0 = p := by unfold Addr.add; simp
theorem exec_load_at {P : Program} {op : Oper} {a : Act} {w : World} (ty : TypeId) (x : Operand) (ho : op.op = .load ty x)
    (p : Addr) (hx : a.eval x = .pointer (some p)) (cs : List Value) (d : TypeDesc) (hc : ∀ j v, cs[j]? = some v → w.cell? (p.add j) = some v)
    (hu : P.underlying ty = some d) (hd : d.isRow = true) (hi : (P.info? ty).map (·.size) = some cs.length) : (execOp a.eval op).run P w = .ok (.value (.agg cs.toArray)) w := by
  unfold execOp
  simp only [ho, hx, Instr.loadAt, Instr.sureAddr, Sem.run_bind, Sem.run_pure, Result.andThen_ok, run_loadVar_at w p ty cs d hc hu hd hi]
theorem Blk.reads_row {w : World} {base size n : Nat} {e : TypeId} {A : Option Addr} {c : Nat} {xs : List Value} (h : w.ownsRow base e size (.slice A n c) n xs) {B : Nat} (hB : w.heap.size ≤ B) : Reads w B size A n xs := (Reads.of_own h).more hB
end Go.Proofs.YtpklcmocjimcpaaDoor

/-
  The sectors of boxes whose numbers go on from the first one. Conditions: each is a box; its data read as they are said to.
-/
namespace Go.Proofs.YtpklcmocjimcpaaDoor
open Go.RowKit
set_option maxRecDepth 100000
set_option linter.unusedSimpArgs false
set_option linter.unusedVariables false
/-- rows of bytes, each of which reads -/
def RowsB (w : World) (B : Nat) (A : Option Addr) (m : Nat) (rs : Nat → Value) (ds : Nat → List Nat) : Prop :=
  Reads w B 1 A m ((List.range m).map rs) ∧ ∀ i, i < m → ∃ a c, rs i = .slice a (ds i).length c ∧ Bytes w B a (ds i).length (ds i)
theorem RowsB.at_ {w : World} {B m : Nat} {A : Option Addr} {rs : Nat → Value} {ds : Nat → List Nat} (h : RowsB w B A m rs ds) {k : Nat} (hk : k < m) : ∃ ad a c, A = some ad ∧ w.cell? (ad.add k) = some (.slice a (ds k).length c) ∧ Bytes w B a (ds k).length (ds k) := by
  obtain ⟨ad, u, e, _, hx, hc⟩ := h.1.at_ hk
  obtain ⟨a, c, h1, h2⟩ := h.2 k hk
  have : u = rs k := by simpa [hk] using hx.symm
  exact ⟨ad, a, c, e, by rw [hc, this, h1], h2⟩
theorem RowsB.below {w w' : World} {B m : Nat} {A : Option Addr} {rs : Nat → Value} {ds : Nat → List Nat} (h : RowsB w B A m rs ds) (hb : Below B w w') : RowsB w' B A m rs ds :=
  ⟨h.1.below hb, fun i hi => by obtain ⟨a, c, h1, h2⟩ := h.2 i hi; exact ⟨a, c, h1, h2.below hb⟩⟩
theorem RowsB.more {w : World} {B B' m : Nat} {A : Option Addr} {rs : Nat → Value} {ds : Nat → List Nat} (h : RowsB w B A m rs ds) (hb : B ≤ B') : RowsB w B' A m rs ds :=
  ⟨h.1.more hb, fun i hi => by obtain ⟨a, c, h1, h2⟩ := h.2 i hi; exact ⟨a, c, h1, h2.more hb⟩⟩
/-- the sectors, of which so many are sealed -/
noncomputable def sealRow (k g first : Int) (ds : Nat → List Nat) (j i : Nat) : Sec := if i < j then sealRes k g (first + i) (ds i) else Sec.zero
theorem sealRow_put (k g first : Int) (ds : Nat → List Nat) (j : Nat) : (fun i => if i = j then sealRes k g (first + j) (ds j) else sealRow k g first ds j i) = sealRow k g first ds (j + 1) := by
  funext i
  unfold sealRow
  by_cases h : i = j
  · subst h; simp
  · rw [if_neg h]
    by_cases h2 : i < j
    · rw [if_pos h2, if_pos (by omega)]
    · rw [if_neg h2, if_neg (by omega)]
set_option maxRecDepth 100000 in
set_option maxHeartbeats 2000000 in
theorem jsealed_any (k g : Int) (first : Nat) (A : Option Addr) (m c : Nat) (rs : Nat → Value) (ds : Nat → List Nat) (w : World) (hm : m ≤ 4096) (hf : first ≤ 1000000) (hR : RowsB w w.heap.size A m rs ds) (hT : Tab w) (hpos : 0 < w.heap.size)
    (hgood : ∀ i : Nat, i < m → sealErr k g ((first : Int) + i) (ds i).length = 0) :
    Calls Tryd.prog 45 #[.int .i64 k, .int .i64 g, .int .i64 first, .slice A m c] w fun e w' => ∃ v, e = .returned (.tuple #[v, .nilIface]) ∧ w'.ownsRow w.heap.size 90 128 v m (sixCells (sealRow k g first ds m) m) ∧ Below w.heap.size w w' := by
  obtain ⟨i0, hi0, hz0, hz1, hz2⟩ := info_parts sec_info
  have hmk : ∀ w, (Instr.makeSlice 69 (.int .i64 m) (.int .i64 m)).run Tryd.prog w = .ok (.slice (some ⟨w.heap.size, 0, none⟩) m m) (w.alloc (.cells ((List.replicate m Sec.zero).flatMap Sec.cs).toArray 90)) := by
    intro w
    have := run_make (P := Tryd.prog) w 69 90 i0 Sec.zero.v Tryd.underlying69 hi0 hz0 .i64 .i64 m m (by omega) (by omega) (by rw [hz2]; omega) (by omega)
    rw [hz1] at this
    simp only [Int.toNat_natCast] at this
    rw [made_zeros] at this
    exact this
  have e0 : (List.replicate m Sec.zero).flatMap Sec.cs = sixCells (sealRow k g first ds 0) m := by
    rw [six_flat]
    congr 1
    apply List.ext_getElem?
    intro i
    simp only [List.getElem?_replicate, List.getElem?_map, List.getElem?_range]
    by_cases hi : i < m <;> simp [hi, sealRow]
  rw [e0] at hmk
  have HR := Lib.hid hR
  have HT := Lib.hid hT
  have HG := Lib.hid hgood
  have hb0 := Lib.hid ((Below.refl w.heap.size w).alloc (Nat.le_refl _) (.cells (sixCells (sealRow k g first ds 0) m).toArray 90))
  have hrow0 : (w.alloc (.cells (sixCells (sealRow k g first ds 0) m).toArray 90)).ownsRow w.heap.size 90 128 (.slice (some ⟨w.heap.size, 0, none⟩) m m) m (sixCells (sealRow k g first ds 0) m) :=
    ⟨six_len _ _, .inr ⟨w.heap.size, m, _, rfl, Nat.le_refl _, Blk.new w _ _, Nat.le_refl _, by simp [maxLen]; omega, by rw [List.size_toArray, six_len], List.take_of_length_le (by rw [List.toList_toArray, six_len]; omega)⟩⟩
  have HROW := Lib.hid hrow0
  clear hR hT hgood e0 hrow0 hi0 hz0 hz1 hz2
  obtain ⟨Zs, hz6, hzl⟩ : ∃ Zs : List Value, (∀ w, (zeroValue 90).run Tryd.prog w = .ok (.agg Zs.toArray) w) ∧ Zs.length = 128 := ⟨_, sec_zero, Sec.cs_len _⟩
  have hus := Tryd.underlying90
  have hib : ∀ s : Sec, (Tryd.prog.info? 90).map (·.size) = some s.cs.length := fun s => by rw [Sec.cs_len]; exact sec_size
  go_enter Tryd.func45, Tryd.ntmps45
  go_wp2_with fail
  generalize hw1 : w.alloc (.cells (sixCells (sealRow k g first ds 0) m).toArray 90) = w1 at *
  go_loopg [20] m (fun gk j wr => ∃ q : Nat, q ≤ m ∧ gk = m - q ∧ j = .int .i64 q ∧ Below w.heap.size w wr ∧ wr.ownsRow w.heap.size 90 128 (.slice (some ⟨w.heap.size, 0, none⟩) m m) m (sixCells (sealRow k g first ds q) m))
  case atStart => exact ⟨0, by omega, by omega, rfl, hb0.out, HROW.out⟩
  case round =>
    obtain ⟨q, hq, rfl, rfl, hb, hrow⟩ := hrel
    by_cases hlt : q < m
    · obtain ⟨ad, a, cc, rfl, hc, hby⟩ := (HR.out.below hb).at_ hlt
      have HT1 := Lib.hid (show Tab wr from fun i hi => (hb.cell (p := ⟨0, i, none⟩) hpos).trans (HT.out i hi))
      have HBY := Lib.hid hby
      have HRW := Lib.hid hrow
      have HB := Lib.hid hb
      have hk1 : (q : Int) < (m : Int) := by omega
      clear hby hrow hb
      go_wp2_with fail
      refine (seal_any k g ((first : Int) + q) a cc (ds q) _ wr HBY.out HT1.out).mono ?_
      rintro e w5 ⟨rfl, b5⟩
      rw [HG.out q hlt]
      simp only [errV, Sec.v]
      have HS := Lib.hid (sealRow_put k g first ds q)
      generalize sealRes k g ((first : Int) + q) (ds q) = s at *
      have R5 := Lib.hid (row_of HRW.out fun x hx => b5.block x (row_under HRW.out x hx))
      have B5 := Lib.hid (HB.out.trans (b5.mono HB.out.size))
      have R6 := Lib.hid (R5.out.alloc (.cells s.cs.toArray 90))
      have B6 := Lib.hid (B5.out.alloc B5.out.size (.cells s.cs.toArray 90))
      have BX := Lib.hid (Blk.new w5 90 s.cs.toArray)
      have hth : (w5.alloc (.cells s.cs.toArray 90)).there w.heap.size (q * 128) s.cs.toArray.size := by
        have h128 : s.cs.toArray.size = 128 := by simp [Sec.cs_len]
        rw [h128]; exact row_there R6.out hlt
      have hib2 : (Tryd.prog.info? 90).map (·.size) = some s.cs.toArray.size := by rw [List.size_toArray]; exact hib s
      have hs5 := B5.out.size
      clear R5 B5 b5 HRW HB HT1 HBY hc
      go_wp2_with (first
        | (refine wpList_store_newN rfl 90 (.tmp 13) (.tmp 34) rfl w5.heap.size rfl s.cs Zs.toArray rfl rfl (hib s) (by simp [Sec.cs_len, hzl]) s.one ?_)
        | (refine wpList_load_mid rfl 90 (.tmp 13) rfl w5.heap.size 0 rfl s.cs _ BX.out.range hus rfl (hib s) ?_)
        | (refine wpList_store_mid rfl 90 (.tmp 42) (.tmp 41) rfl w.heap.size (q * 128) s.cs.toArray rfl rfl hth hib2 (all_oneCell_toArray s.one) ?_))
      go_roundg (m - (q + 1))
      case measure => omega
      case rel =>
        refine ⟨q + 1, by omega, rfl, by go_num, B6.out.grown (setCells_grown w.heap.size _ _ _).1 B6.out.size (fun x hx => by injection hx with hx; omega), ?_⟩
        rw [← HS.out]
        exact row_put s R6.out hlt
    · obtain rfl : q = m := by omega
      go_wp2
      go_ret2
      exact ⟨_, rfl, hrow, hb⟩
end Go.Proofs.YtpklcmocjimcpaaDoor

/-
  A journal in memory; rows that are written, each when the one ahead of it is sure. Conditions: no write fails; the disk and the rows lie where they are said to; small numbers.
-/
namespace Go.Proofs.YtpklcmocjimcpaaDoor
open Go.RowKit
set_option maxRecDepth 100000
set_option linter.unusedSimpArgs false
set_option linter.unusedVariables false
/-- a journal's cells -/
def jcells (n g : Nat) (gen : Nat) (vs vt : Value) (used : Nat) (stuck : Bool) : Array Value := #[.int .i64 (areaOf n), .int .i64 (logOf n), .pointer (some ⟨g, 0, none⟩), .int .i64 gen, vs, vt, .int .i64 used, .bool stuck]
/-- a row to be written: where, and its sectors -/
structure RowV where
  at_ : Nat
  A : Option Addr
  c : Nat
  ss : List Sec
def RowV.cs (r : RowV) : List Value := [.int .i64 r.at_, .slice r.A r.ss.length r.c]
def DM.putRows : DM → List RowV → DM × Nat
  | d, [] => (d, 0)
  | d, r :: l => if (d.putRow r.at_ r.ss).2 = 0 then (d.putRow r.at_ r.ss).1.putRows l else d.putRow r.at_ r.ss
theorem row_cs_len (r : RowV) : r.cs.length = 2 := rfl
theorem row_size : (Tryd.prog.info? 71).map (·.size) = some 2 := by kernel_rfl
theorem row_zero (w : World) : (zeroValue 71).run Tryd.prog w = .ok (.agg #[.int .i64 0, .slice none 0 0]) w := by kernel_rfl
theorem RowV.one (r : RowV) : ∀ u ∈ r.cs, u.oneCell' = true := by
  intro u hu
  simp [RowV.cs] at hu
  rcases hu with rfl | rfl <;> rfl
theorem reads_row {w : World} {B : Nat} {A : Option Addr} {l : List RowV} (h : Reads w B 2 A l.length (l.flatMap RowV.cs)) {k : Nat} (hk : k < l.length) :
    ∃ ad r, A = some ad ∧ ad.block < B ∧ l[k]? = some r ∧ ∀ j u, r.cs[j]? = some u → w.cell? ((ad.add (k * 2)).add j) = some u := by
  obtain ⟨ad, e, hb, hc⟩ := h.2 (by omega)
  have hx : l[k]? = some (l[k]'hk) := List.getElem?_eq_getElem hk
  refine ⟨ad, _, e, hb, hx, fun j u hj => ?_⟩
  have hlt : j < 2 := by
    rcases Nat.lt_or_ge j 2 with h' | h'
    · exact h'
    · rw [List.getElem?_eq_none (by rw [row_cs_len]; omega)] at hj; cases hj
  rw [add_of_add]
  exact hc _ _ (by rw [flat_at RowV.cs 2 row_cs_len l k j _ hx hlt]; exact hj)
/-- how many steps rows may take -/
def stepsOf (l : List RowV) : Nat := (l.map fun r => r.ss.length + 1).sum
theorem Far.putRow : ∀ (ss : List Sec) (d : DM) (i m : Nat), Far d (m + ss.length + 1) → Far (d.putRow i ss).1 m
  | [], d, i, m, h => by
    simp only [DM.putRow, List.length_nil] at h ⊢
    unfold DM.flush
    split
    · exact Far.step h
    · have e := Far.step h
      exact ⟨e.steps, e.left, by show 0 + m ≤ _; have := e.wait; omega⟩
  | s :: ss, d, i, m, h => by
    simp only [DM.putRow, List.length_cons] at h ⊢
    have e : Far (d.write i s) (m + ss.length + 1) := Far.write (h.less (by omega)) i s
    split
    · exact Far.putRow ss _ _ m e
    · exact e.less (by omega)
theorem exec_load_blk1 {P : Program} {op : Oper} {a : Act} {w : World} (ty : TypeId) (x : Operand) (ho : op.op = .load ty x) (g : Nat) (cs : List Value) (d : TypeDesc) (hx : a.eval x = .pointer (some ⟨g, 0, none⟩)) (hB : Blk w g ty cs.toArray)
    (hu : P.underlying ty = some d) (hd : d.isRow = true) (hi : (P.info? ty).map (·.size) = some cs.length) : (execOp a.eval op).run P w = .ok (.value (.agg cs.toArray)) w := by
  unfold execOp
  simp only [ho, hx, Instr.loadAt, Instr.sureAddr, Sem.run_bind, Sem.run_pure, Result.andThen_ok, run_loadVar_mid w g 0 ty cs d hB.range hu hd hi]
set_option maxRecDepth 100000 in
set_option maxHeartbeats 2000000 in
theorem write_good {w0 w : World} {g gj : Nat} {d : DM} {X : List Nat} (h : Holds w0 w g d X) (J : Array Value) (hJ : Blk w gj 67 J) (hJ1 : J[2]? = some (.pointer (some ⟨g, 0, none⟩))) (hgj : gj ∈ X) (A : Option Addr) (c : Nat) (l : List RowV) (hA : ∀ k ∈ blkOf A, k ∈ X)
    (hR : Reads w w.heap.size 2 A l.length (l.flatMap RowV.cs)) (hrows : ∀ r ∈ l, (∀ k ∈ blkOf r.A, k ∈ X) ∧ Reads w w.heap.size 128 r.A r.ss.length (r.ss.flatMap Sec.cs) ∧ r.at_ + r.ss.length ≤ 1000000) (hf : Far d (stepsOf l)) (hll : l.length ≤ 1000) (hok : (d.putRows l).2 = 0) :
    Calls Tryd.prog 30 #[.pointer (some ⟨gj, 0, none⟩), .slice A l.length c] w fun e w' => e = .returned .nilIface ∧ Holds w0 w' g (d.putRows l).1 X ∧ Keep X w w' := by
  have hXl : ∀ k ∈ X, k < w.heap.size := by obtain ⟨F, h1, h2, h3⟩ := h; exact fun k hk => (h3 k hk).2
  have H := Lib.hid h
  have HJ := Lib.hid hJ
  have HR := Lib.hid hR
  have HA := Lib.hid hA
  have HX := Lib.hid hXl
  have HRS := Lib.hid hrows
  have HOK := Lib.hid hok
  clear h hJ hR hA hXl hrows hok
  have hz := row_zero
  have hur := Tryd.underlying71
  go_enter Tryd.func30, Tryd.ntmps30
  go_wp2
  go_loopg [10] l.length (fun gk j wr => ∃ (k : Nat) (d' : DM), k ≤ l.length ∧ gk = l.length - k ∧ j = .int .i64 k ∧ Holds w0 wr g d' X ∧ Keep X w wr ∧ d'.putRows (l.drop k) = d.putRows l ∧ Far d' (stepsOf (l.drop k)))
  case atStart => exact ⟨0, d, by omega, by omega, rfl, H.out, ⟨Nat.le_refl _, fun _ _ => rfl⟩, by simp, by simpa using hf⟩
  case round =>
    obtain ⟨k, d', hk, rfl, rfl, hd, hkp, hpr, hfar⟩ := hrel
    by_cases hlt : k < l.length
    · have hR1 : Reads wr wr.heap.size 2 A l.length (l.flatMap RowV.cs) := HR.out.blk (fun q hq => hkp.2 q (HA.out q hq)) hkp.1
      obtain ⟨ad, r, rfl, hadb, hr, hc⟩ := reads_row hR1 hlt
      obtain ⟨hrA, hrR, hri⟩ := HRS.out r (List.mem_of_getElem? hr)
      have hdrop : l.drop k = r :: l.drop (k + 1) := by
        rw [List.drop_eq_getElem_cons hlt]
        congr 1
        exact Option.some.inj ((List.getElem?_eq_getElem hlt).symm.trans hr)
      have hunf : d'.putRows (l.drop k) = if (d'.putRow r.at_ r.ss).2 = 0 then (d'.putRow r.at_ r.ss).1.putRows (l.drop (k + 1)) else d'.putRow r.at_ r.ss := by
        rw [hdrop]; rfl
      rw [hpr] at hunf
      have hzero : (d'.putRow r.at_ r.ss).2 = 0 := by
        by_cases hh : (d'.putRow r.at_ r.ss).2 = 0
        · exact hh
        · rw [if_neg hh] at hunf
          have := HOK.out
          rw [hunf] at this
          exact this
      rw [if_pos hzero] at hunf
      have hst : stepsOf (l.drop k) = stepsOf (l.drop (k + 1)) + r.ss.length + 1 := by
        rw [hdrop]; unfold stepsOf; simp; omega
      rw [hst] at hfar
      have hfw := Far.putRow r.ss d' r.at_ _ hfar
      have BX := Lib.hid (Blk.new wr 71 r.cs.toArray)
      have DX := Lib.hid (hd.push (.cells r.cs.toArray 71))
      have hal : Below wr.heap.size wr (wr.alloc (.cells r.cs.toArray 71)) := (Below.refl _ _).alloc (Nat.le_refl _) _
      have hX1 : ∀ q ∈ X, q < wr.heap.size := fun q hq => Nat.lt_of_lt_of_le (HX.out q hq) hkp.1
      have KX := Lib.hid (hkp.trans (Keep.below hal hX1))
      have BJ := Lib.hid ((hkp.blk hgj HJ.out).alloc (.cells r.cs.toArray 71))
      have RR := Lib.hid (hrR.blk (w' := wr.alloc (.cells r.cs.toArray 71)) (B' := (wr.alloc (.cells r.cs.toArray 71)).heap.size) (fun q hq => KX.out.2 q (hrA q hq)) KX.out.1)
      have HUN := Lib.hid hunf
      have HZE := Lib.hid hzero
      have HFW := Lib.hid hfw
      have HFA := Lib.hid (hfar.less (show r.ss.length + 1 ≤ stepsOf (l.drop (k + 1)) + r.ss.length + 1 by omega))
      have hi2 : (Tryd.prog.info? 71).map (·.size) = some r.cs.length := row_size
      clear hd hkp hpr hfar hR1 hr hdrop hunf hfw hX1 hst hzero hal hrR
      go_wp2_with (first
        | (refine wpList_load_at rfl 71 (.tmp 12) rfl _ rfl r.cs _ hc hur rfl hi2 ?_)
        | (refine wpList_store_newN rfl 71 (.tmp 6) (.tmp 13) rfl wr.heap.size rfl r.cs _ rfl rfl hi2 rfl r.one ?_))
      have hSx : Blk (wr.alloc (.cells r.cs.toArray 71)).drew wr.heap.size 71 r.cs.toArray ∧ Blk (wr.alloc (.cells r.cs.toArray 71)).drew gj 67 J := ⟨BX.out, BJ.out⟩
      refine any_beginL (fun w' => Blk w' wr.heap.size 71 r.cs.toArray ∧ Blk w' gj 67 J) 99 (by kernel_rfl) ?_
      refine S_take (i := 0) (v := .agg r.cs.toArray) rfl rfl (by kernel_rfl) (by kernel_rfl) (by kernel_rfl) (fun _ _ _ h => h) (Or.inl ⟨by rfl, fun w hw => exec_load_blk1 71 (.tmp 6) rfl _ _ _ rfl hw.1 hur rfl hi2⟩) hSx ?_
      simp only [Act.put, List.getElem_toArray, List.getElem_cons_succ, List.getElem_cons_zero, List.setIfInBounds_toArray, List.set_cons_zero, List.set_cons_succ]
      refine S_take (i := 1) (v := .pointer (some ⟨gj, 0, none⟩)) rfl rfl (by kernel_rfl) (by kernel_rfl) (by kernel_rfl) (fun _ _ _ h => h) (Or.inl ⟨by rfl, fun w _ => by kernel_rfl⟩) hSx ?_
      simp only [Act.put, List.getElem_toArray, List.getElem_cons_succ, List.getElem_cons_zero, List.setIfInBounds_toArray, List.set_cons_zero, List.set_cons_succ]
      refine S_take (i := 2) (v := .pointer (some ⟨gj, 0, none⟩)) rfl rfl (by kernel_rfl) (by kernel_rfl) (by kernel_rfl) (fun _ _ _ h => h) (Or.inl ⟨by rfl, fun w _ => by go_simp⟩) hSx ?_
      simp only [Act.put, List.getElem_toArray, List.getElem_cons_succ, List.getElem_cons_zero, List.setIfInBounds_toArray, List.set_cons_zero, List.set_cons_succ]
      refine S_take (i := 3) (v := .pointer (some ⟨gj, 2, none⟩)) rfl rfl (by kernel_rfl) (by kernel_rfl) (by kernel_rfl) (fun _ _ _ h => h) (Or.inl ⟨by rfl, fun w _ => by kernel_rfl⟩) hSx ?_
      simp only [Act.put, List.getElem_toArray, List.getElem_cons_succ, List.getElem_cons_zero, List.setIfInBounds_toArray, List.set_cons_zero, List.set_cons_succ]
      refine S_take (i := 4) (v := .pointer (some ⟨g, 0, none⟩)) rfl rfl (by kernel_rfl) (by kernel_rfl) (by kernel_rfl) (fun _ _ _ h => h) (Or.inl ⟨by rfl, fun w hw => by have q : w.cell? ⟨gj, 2, none⟩ = some (.pointer (some ⟨g, 0, none⟩)) := (hw.2.cell 2).trans hJ1; go_simp⟩) hSx ?_
      simp only [Act.put, List.getElem_toArray, List.getElem_cons_succ, List.getElem_cons_zero, List.setIfInBounds_toArray, List.set_cons_zero, List.set_cons_succ]
      refine L_one (j := 5) (by kernel_rfl) rfl (by rfl) ?_
      simp only [Act.put, List.getElem_toArray, List.getElem_cons_succ, List.getElem_cons_zero, List.setIfInBounds_toArray, List.set_cons_zero, List.set_cons_succ]
      refine wp_called (by kernel_rfl) (rowPut_any DX.out.drew r.A r.c r.at_ r.ss (fun q hq => List.mem_cons_of_mem _ (hrA q hq)) RR.out HFA.out hri) ?_
      rintro e w6 ⟨rfl, h6, k6⟩
      rw [HZE.out]
      have k6' : Keep (wr.heap.size :: X) (wr.alloc (.cells r.cs.toArray 71)) w6 := ⟨k6.1, k6.2⟩
      have hS6 : Blk w6 wr.heap.size 71 r.cs.toArray ∧ Blk w6 gj 67 J := ⟨k6'.blk (by simp) BX.out, k6'.blk (by simp [hgj]) BJ.out⟩
      refine ⟨_, rfl, hS6, ?_⟩
      simp only [Act.put, List.getElem_toArray, List.getElem_cons_succ, List.getElem_cons_zero, List.setIfInBounds_toArray, List.set_cons_zero, List.set_cons_succ]
      refine L_one (j := 6) (by kernel_rfl) rfl (by rfl) ?_
      simp only [Act.put, List.getElem_toArray, List.getElem_cons_succ, List.getElem_cons_zero, List.setIfInBounds_toArray, List.set_cons_zero, List.set_cons_succ]
      refine wp_yields (v := .nilIface) (by kernel_rfl) ⟨hS6, ?_⟩
      simp only [Act.put, List.getElem_toArray, List.getElem_cons_succ, List.getElem_cons_zero, List.setIfInBounds_toArray, List.set_cons_zero, List.set_cons_succ]
      refine L_done (by kernel_rfl) ?_
      refine NoPanic.normal ?_
      have H6 := Lib.hid (h6.mono (Y := X) (fun q hq => List.mem_cons_of_mem _ hq))
      have K6 := Lib.hid (KX.out.trans (Keep.mono k6' (Y := X) (fun q hq => List.mem_cons_of_mem _ hq)))
      clear h6 k6 k6' hS6 hSx
      go_wp2
      go_roundg (l.length - (k + 1))
      case measure => omega
      case rel => exact ⟨k + 1, _, by omega, rfl, by go_num, H6.out, K6.out, HUN.out.symm, HFW.out⟩
    · obtain rfl : k = l.length := by omega
      rw [List.drop_length] at hpr
      have hse : d.putRows l = (d', 0) := hpr.symm
      go_wp2
      go_ret
      rw [hse]
      exact ⟨rfl, hd, hkp⟩
end Go.Proofs.YtpklcmocjimcpaaDoor

/-
  Rows of bytes that are marked, then grown, then looked at: what stays. No condition.
-/
namespace Go.Proofs.YtpklcmocjimcpaaDoor
open Go.RowKit
set_option maxRecDepth 100000
set_option linter.unusedSimpArgs false
set_option linter.unusedVariables false
def mark (k j : Nat) : Nat := (31 * k + 3 * j + 1) % 256
def marks (k n : Nat) : List Nat := (List.range n).map (mark k)
theorem marks_len (k n : Nat) : (marks k n).length = n := by simp [marks]
theorem marks_lt (k n : Nat) : ∀ b ∈ marks k n, b < 256 := by
  intro b hb
  obtain ⟨j, _, rfl⟩ := List.mem_map.1 hb
  exact Nat.mod_lt _ (by omega)
theorem marks_snoc (k n : Nat) : marks k (n + 1) = marks k n ++ [mark k n] := by simp [marks, List.range_succ]
theorem marks_at (k n j : Nat) (hj : j < n) : (marks k n)[j]? = some (mark k j) := by simp [marks, hj]
/-- a row whose first j bytes are marked -/
def markTo (k j : Nat) (bs : List Nat) : List Nat := marks k j ++ bs.drop j
theorem markTo_set (k j : Nat) (bs : List Nat) (hj : j < bs.length) : (markTo k j bs).set j (mark k j) = markTo k (j + 1) bs := by
  unfold markTo
  rw [List.set_append_right _ _ (by rw [marks_len]; omega), marks_len, Nat.sub_self, List.drop_eq_getElem_cons hj, List.set_cons_zero, marks_snoc, List.append_assoc]
  rfl
theorem markTo_len (k j : Nat) (bs : List Nat) (hj : j ≤ bs.length) : (markTo k j bs).length = bs.length := by simp [markTo, marks_len]; omega
theorem markTo_all (k : Nat) (bs : List Nat) : markTo k bs.length bs = marks k bs.length := by simp [markTo]
/-- rows of two kinds of cells share no block -/
theorem own_ne {w : World} {base base' : Nat} {e e' : TypeId} {s s' n n' : Nat} {v v' : Value} {xs xs' : List Value} (h : w.ownsRow base e s v n xs) (h' : w.ownsRow base' e' s' v' n' xs') (hne : e ≠ e') : ∀ b, v.ownBlock = some b → v'.ownBlock ≠ some b := by
  intro b hb hb'
  rcases h.2 with ⟨rfl, _⟩ | ⟨g, cap, cur, rfl, _, hh, _⟩
  · simp [Value.ownBlock] at hb
  · rcases h'.2 with ⟨rfl, _⟩ | ⟨g', cap', cur', rfl, _, hh', _⟩
    · simp [Value.ownBlock] at hb'
    · have e1 : g = b := by simpa [Value.ownBlock] using hb
      have e2 : g' = b := by simpa [Value.ownBlock] using hb'
      subst e1 e2
      rw [hh] at hh'
      injection hh' with hh'
      injection hh' with _ ht
      exact hne ht
/-- append of one byte: in the same row, or in a new one -/
theorem run_append_two (w : World) (base : Nat) (ty : TypeId) (v : Value) (n : Nat) (bs : List Nat) (hown : Own w base v n bs) (a : Addr) (c : Nat) (b : Nat) (hb : Bytes w (w.heap.size) (some a) 1 [b]) (hn : n ≤ 1000000) (hbase : base ≤ w.heap.size) :
    ∃ v' w', (Builtin.append_ #[34, 34] ty #[v, .slice (some a) 1 c]).run Tryd.prog w = .ok v' w' ∧ Own w' base v' (n + 1) (bs ++ [b]) ∧
      ((v'.ownBlock = v.ownBlock ∧ w.grownBy w' v.ownBlock ∧ (∃ g cap, v = .slice (some ⟨g, 0, none⟩) n cap ∧ v' = .slice (some ⟨g, 0, none⟩) (n + 1) cap)) ∨ (v'.ownBlock = some w.heap.size ∧ w.grownBy w' none)) := by
  obtain ⟨i0, hi0, hz0, hz1, hz2⟩ := info_parts byte_info
  have hcells : ∀ j u, (u8s [b])[j]? = some u → w.cell? (a.add j) = some u := by
    obtain ⟨ad, e, _, hc⟩ := hb.1.2 (by omega)
    injection e with e
    subst e
    exact hc
  obtain ⟨v', w', hrun, h2, h3, h4, h5⟩ := run_append_own_at (P := Tryd.prog) w base 34 ty 5 i0 _ 1 1 Tryd.underlying34 hi0 hz0 hz1 hz2 rfl (by omega) v n (u8s bs) hown a 1 c (u8s [b]) rfl hcells (oneCell_u8s _) (by simp only [maxLen]; omega) (by omega) hbase
  have h2' : Own w' base v' (n + 1) (bs ++ [b]) := by unfold Own; rw [u8s, List.map_append]; exact h2
  refine ⟨v', w', hrun, h2', ?_⟩
  rcases hown.2 with ⟨rfl, hx⟩ | ⟨g, cap, cur, rfl, hbg, hg, hnc, hcm, hcs, htake⟩
  · right
    rcases h5 with h5 | h5
    · exfalso
      have := h4.1
      rcases h2.2 with ⟨rfl, h0⟩ | ⟨g', _, _, rfl, _⟩
      · omega
      · simp [Value.ownBlock] at h5
    · exact ⟨h5, h3⟩
  · by_cases hroom : n + 1 ≤ cap
    · left
      have hr := run_append_room (P := Tryd.prog) w 34 ty 5 i0 Tryd.underlying34 hi0 g n cap cur hg a 1 c (u8s [b]) (by rw [hz1]; rfl) hcells (oneCell_u8s _) hroom (by rw [hz1, hcs, u8s_length]; show n * 1 + 1 ≤ cap * 1; omega)
      rw [hrun] at hr
      injection hr with e1 e2
      subst e1
      exact ⟨rfl, h3, g, cap, rfl, rfl⟩
    · right
      have holds : ∀ j u, (u8s bs)[j]? = some u → w.cell? ((⟨g, 0, none⟩ : Addr).add j) = some u := World.ownsRow.cells hown (g := g) rfl
      have hr := run_append_grow (P := Tryd.prog) w 34 ty 5 i0 _ Tryd.underlying34 hi0 hz0 ⟨g, 0, none⟩ n cap (u8s bs) (by rw [hz1]; exact hown.1) holds a 1 c (u8s [b]) (by rw [hz1]; rfl) hcells (by omega) (by omega) (growslice_fits (by omega) (by rw [hz2]; omega))
      rw [hrun] at hr
      injection hr with e1 e2
      subst e1 e2
      exact ⟨rfl, ⟨rfl, rfl, rfl, by simp, fun k hk _ => Below.heap_alloc w.drew _ k hk⟩⟩
/-- the row that was there stands behind an append in its own row -/
theorem own_ahead {w : World} {base g n m cap : Nat} {bs bs' : List Nat} (h : Own w base (.slice (some ⟨g, 0, none⟩) m cap) m (bs ++ bs')) (hn : bs.length = n) : Own w base (.slice (some ⟨g, 0, none⟩) n cap) n bs := by
  have hl := h.len
  rw [List.length_append] at hl
  refine ⟨by rw [u8s_length]; omega, ?_⟩
  rcases h.2 with ⟨h, _⟩ | ⟨g', cap', cur, hv, h1, h2, h3, h4, h5, h6⟩
  · cases h
  · injection hv with e1 e2 e3
    injection e1 with e1
    injection e1 with e1
    subst e1 e3
    refine .inr ⟨g, cap, cur, rfl, h1, h2, by omega, h4, h5, ?_⟩
    have := congrArg (List.take (n * 1)) h6
    rw [List.take_take, u8s, List.map_append, List.take_left' (by simp; omega)] at this
    rw [show min (n * 1) (m * 1) = n * 1 by omega] at this
    exact this
/-- how a row is being grown: the row v, which began as v0 -/
structure Grow (w0 w : World) (base : Nat) (v0 : Value) (n : Nat) (k : Nat) (v : Value) (q : Nat) : Prop where
  cur : Own w base v q (marks k q)
  old : Own w base v0 n (marks k n)
  only : Only (rowOf v0) w0 w
  own : ∀ b, v.ownBlock = some b → v0.ownBlock = some b ∨ w0.heap.size ≤ b
theorem Grow.alloc {w0 w : World} {base : Nat} {v0 v : Value} {n k q : Nat} (h : Grow w0 w base v0 n k v q) (o : Obj) : Grow w0 (w.alloc o) base v0 n k v q :=
  ⟨h.cur.alloc o, h.old.alloc o, h.only.alloc o, h.own⟩
/-- one byte more -/
theorem Grow.step {w0 w w' : World} {base : Nat} {v0 v v' : Value} {n k q : Nat} (h : Grow w0 w base v0 n k v q) (hnq : n ≤ q) (ho : Own w' base v' (q + 1) (marks k q ++ [mark k q]))
    (hc : (v'.ownBlock = v.ownBlock ∧ w.grownBy w' v.ownBlock ∧ (∃ g cap, v = .slice (some ⟨g, 0, none⟩) q cap ∧ v' = .slice (some ⟨g, 0, none⟩) (q + 1) cap)) ∨ (v'.ownBlock = some w.heap.size ∧ w.grownBy w' none)) : Grow w0 w' base v0 n k v' (q + 1) := by
  rw [← marks_snoc] at ho
  rcases hc with ⟨e1, hg, g, cap, rfl, rfl⟩ | ⟨e1, hg⟩
  · refine ⟨ho, ?_, h.only.grown hg (fun b e => ?_), fun b e => h.own b (by rw [← e1]; exact e)⟩
    · by_cases hs : v0.ownBlock = some g
      · rcases h.old.2 with ⟨rfl, _⟩ | ⟨g0, cap0, cur0, rfl, _, hh0, _, _, hsz0, _⟩
        · simp [Value.ownBlock] at hs
        · have : g0 = g := by simpa [Value.ownBlock] using hs
          subst this
          have hcap : cap0 = cap := by
            rcases h.cur.2 with ⟨hh, _⟩ | ⟨g1, cap1, cur1, hv1, _, hh1, _, _, hsz1, _⟩
            · cases hh
            · injection hv1 with a1 a2 a3
              injection a1 with a1
              injection a1 with a1
              subst a1 a3
              rw [hh0] at hh1
              injection hh1 with hh1
              injection hh1 with hh1
              subst hh1
              omega
          subst hcap
          obtain ⟨r, hr⟩ : ∃ r, marks k (q + 1) = marks k n ++ r := by
            obtain ⟨d, hd⟩ : ∃ d, q + 1 = n + d := ⟨q + 1 - n, by omega⟩
            rw [hd]
            exact ⟨(List.range d).map (fun j => mark k (n + j)), by simp [marks, List.range_add, Function.comp_def]⟩
          rw [hr] at ho
          exact own_ahead ho (marks_len k n)
      · exact Own.grown h.old hg (.inr (by simpa [Value.ownBlock] using hs))
    · rcases h.own b e with h' | h'
      · exact .inl (mem_rowOf.2 h')
      · exact .inr h'
  · refine ⟨ho, ?_, h.only.grown hg (fun b e => by cases e), fun b e => ?_⟩
    · by_cases hs : v0.ownBlock = none
      · exact Own.grown h.old hg (.inl hs)
      · exact Own.grown h.old hg (.inr hs)
    · rw [e1] at e
      injection e with e
      exact .inr (by have := h.only.size; omega)
theorem app_two {w : World} {ops : Array Oper} {rest : List Oper} {o : Oper} {a : Act} {Q : Exit → Act → World → Prop} (s x : Operand)
    (hgd : o.guard = none) (ho : o.op = .call { callee := .builtin .append, args := #[s, x], argTypes := #[34, 34] })
    (base : Nat) (v : Value) (n : Nat) (bs : List Nat) (hs : a.eval s = v) (hown : Own w base v n bs)
    (ad : Addr) (c : Nat) (b : Nat) (hx : a.eval x = .slice (some ad) 1 c) (hr : Bytes w w.heap.size (some ad) 1 [b]) (hn : n ≤ 1000000) (hbase : base ≤ w.heap.size)
    (h : ∀ v' w', Own w' base v' (n + 1) (bs ++ [b]) → ((v'.ownBlock = v.ownBlock ∧ w.grownBy w' v.ownBlock ∧ (∃ g cap, v = .slice (some ⟨g, 0, none⟩) n cap ∧ v' = .slice (some ⟨g, 0, none⟩) (n + 1) cap)) ∨ (v'.ownBlock = some w.heap.size ∧ w.grownBy w' none)) → wpList Tryd.prog ops Q rest (a.put o.dst v') w') :
    wpList Tryd.prog ops Q (o :: rest) a w := by
  obtain ⟨v', w', hrun, h2, h3⟩ := run_append_two w base o.type v n bs hown ad c b hr hn hbase
  refine wpList_plain hgd fun _ hK => ?_
  unfold Oper.wp execOp
  simp only [ho, resolve, invoke, builtin, Sem.run_bind, Sem.run_pure, Result.andThen_ok, List.map_toArray, List.map_cons, List.map_nil, hs, hx, hrun]
  exact hK _ _ (h v' w' h2 h3)
theorem row_form {w : World} {base : Nat} {e : TypeId} {v : Value} {n : Nat} {xs : List Value} (h : w.ownsRow base e 1 v n xs) : ∃ A c, v = .slice A n c := by
  rcases h.2 with ⟨rfl, hx⟩ | ⟨g, cap, cur, rfl, _⟩
  · subst hx; exact ⟨none, 0, rfl⟩
  · exact ⟨_, _, rfl⟩
theorem slice_info : (Tryd.prog.info? 34).map (fun i => (i.zero, i.size, i.bytes)) = some (some (.slice none 0 0), 1, 24) := by kernel_rfl
theorem app_row {w : World} {ops : Array Oper} {rest : List Oper} {o : Oper} {a : Act} {Q : Exit → Act → World → Prop} (s x : Operand)
    (hgd : o.guard = none) (ho : o.op = .call { callee := .builtin .append, args := #[s, x], argTypes := #[36, 36] })
    (base : Nat) (v : Value) (n : Nat) (xs : List Value) (hs : a.eval s = v) (hown : w.ownsRow base 34 1 v n xs)
    (B : Nat) (A : Option Addr) (c : Nat) (u : Value) (hx : a.eval x = .slice A 1 c) (hr : Reads w B 1 A 1 [u]) (hu : u.oneCell' = true) (hn : n ≤ 1000000) (hbase : base ≤ w.heap.size)
    (h : ∀ v' w', w'.ownsRow base 34 1 v' (n + 1) (xs ++ [u]) → w.grownBy w' v.ownBlock → wpList Tryd.prog ops Q rest (a.put o.dst v') w') :
    wpList Tryd.prog ops Q (o :: rest) a w := by
  obtain ⟨i0, hi0, hz0, hz1, hz2⟩ := info_parts slice_info
  refine wpList_append_any w hgd s x _ ho base 34 i0 _ 1 24 Tryd.underlying36 hi0 hz0 hz1 hz2 rfl (by omega) v n xs hs hown B A 1 c [u] hx hr (by
    intro u' hu'
    obtain rfl := List.mem_singleton.1 hu'
    exact hu) (by simp only [maxLen]; omega) (by omega) hbase ?_
  intro v' w' h1 h2 h3
  exact h v' w' h1 h2
end Go.Proofs.YtpklcmocjimcpaaDoor

/-
  What the laws' own Apart returns. Conditions: the rows are the call's own, each in a block of its own.
-/
namespace Go.Proofs.YtpklcmocjimcpaaDoor
open Go.RowKit
set_option maxRecDepth 100000
set_option linter.unusedSimpArgs false
set_option linter.unusedVariables false
/-- rows of the call's own, each in a block of its own -/
structure Rowed (w : World) (base : Nat) (vs : Nat → Value) (ns : Nat → Nat) (m : Nat) : Prop where
  own : ∀ i, i < m → ∃ bs, Own w base (vs i) (ns i) bs
  dis : ∀ i j, i < m → j < m → i ≠ j → ∀ b, (vs i).ownBlock = some b → (vs j).ownBlock ≠ some b
/-- the rows up to k are marked -/
structure Marked (w : World) (base : Nat) (vs : Nat → Value) (ns : Nat → Nat) (m k : Nat) : Prop where
  rows : Rowed w base vs ns m
  done : ∀ i, i < k → i < m → Own w base (vs i) (ns i) (marks i (ns i))
theorem Marked.step {w w' : World} {base : Nat} {vs : Nat → Value} {ns : Nat → Nat} {m k : Nat} (h : Marked w base vs ns m k) (hk : k < m) (ho : Own w' base (vs k) (ns k) (marks k (ns k))) (hn : Only (rowOf (vs k)) w w') : Marked w' base vs ns m (k + 1) := by
  have keep : ∀ i, i < m → i ≠ k → ∀ bs, Own w base (vs i) (ns i) bs → Own w' base (vs i) (ns i) bs := fun i hi hne bs hb =>
    row_of hb fun b hb' => hn.block b (row_under hb b hb') (fun hm => h.rows.dis i k hi hk hne b (mem_rowOf.1 hb') (mem_rowOf.1 hm))
  refine ⟨⟨fun i hi => ?_, h.rows.dis⟩, fun i hi him => ?_⟩
  · by_cases hik : i = k
    · subst hik; exact ⟨_, ho⟩
    · obtain ⟨bs, hb⟩ := h.rows.own i hi
      exact ⟨bs, keep i hi hik bs hb⟩
  · by_cases hik : i = k
    · subst hik; exact ho
    · exact keep i him hik _ (h.done i (by omega) him)
/-- the rows up to k are grown, as gs -/
structure Grown (w : World) (base : Nat) (vs gs : Nat → Value) (ns : Nat → Nat) (m k : Nat) : Prop where
  own : ∀ i, i < m → Own w base (vs i) (ns i) (marks i (ns i))
  dis : ∀ i j, i < m → j < m → i ≠ j → ∀ b, (vs i).ownBlock = some b → (vs j).ownBlock ≠ some b
  done : ∀ i, i < k → i < m → Own w base (gs i) (ns i + 10) (marks i (ns i + 10))
  gap : ∀ i j, i < k → i < m → j < m → i ≠ j → ∀ b, (gs i).ownBlock = some b → (vs j).ownBlock ≠ some b
theorem Grown.below {w w' : World} {base : Nat} {vs gs : Nat → Value} {ns : Nat → Nat} {m k : Nat} (h : Grown w base vs gs ns m k) (hb : Below w.heap.size w w') : Grown w' base vs gs ns m k :=
  ⟨fun i hi => (h.own i hi).below hb, h.dis, fun i hi him => (h.done i hi him).below hb, h.gap⟩
theorem Grown.keep {w w' : World} {base : Nat} {vs gs : Nat → Value} {ns : Nat → Nat} {m k : Nat} (h : Grown w base vs gs ns m k) (hv : ∀ i, i < m → ∀ b, (vs i).ownBlock = some b → w'.heap[b]? = w.heap[b]?) (hg : ∀ i, i < k → i < m → ∀ b, (gs i).ownBlock = some b → w'.heap[b]? = w.heap[b]?) : Grown w' base vs gs ns m k :=
  ⟨fun i hi => row_of (h.own i hi) fun b hb => hv i hi b (mem_rowOf.1 hb), h.dis, fun i hi him => row_of (h.done i hi him) fun b hb => hg i hi him b (mem_rowOf.1 hb), h.gap⟩
theorem Grown.step {w w' : World} {base : Nat} {vs gs : Nat → Value} {ns : Nat → Nat} {m k : Nat} {v : Value} (h : Grown w base vs gs ns m k) (hk : k < m) (hg : Grow w w' base (vs k) (ns k) k v (ns k + 10)) : Grown w' base vs (fun i => if i = k then v else gs i) ns m (k + 1) := by
  have keepV : ∀ i, i < m → i ≠ k → Own w' base (vs i) (ns i) (marks i (ns i)) := fun i hi hne =>
    row_of (h.own i hi) fun b hb' => hg.only.block b (row_under (h.own i hi) b hb') (fun hm => h.dis i k hi hk hne b (mem_rowOf.1 hb') (mem_rowOf.1 hm))
  refine ⟨fun i hi => ?_, h.dis, fun i hi him => ?_, fun i j hi him hj hne b hb => ?_⟩
  · by_cases hik : i = k
    · subst hik; exact hg.old
    · exact keepV i hi hik
  · by_cases hik : i = k
    · subst hik; rw [if_pos rfl]; exact hg.cur
    · rw [if_neg hik]
      exact row_of (h.done i (by omega) him) fun b hb' => hg.only.block b (row_under (h.done i (by omega) him) b hb') (fun hm => h.gap i k (by omega) him hk hik b (mem_rowOf.1 hb') (mem_rowOf.1 hm))
  · by_cases hik : i = k
    · subst hik
      rw [if_pos rfl] at hb
      rcases hg.own b hb with h' | h'
      · exact h.dis i j him hj hne b h'
      · intro e
        have := (World.ownsRow.lt (h.own j hj) b e).2
        omega
    · rw [if_neg hik] at hb
      exact h.gap i j (by omega) him hj hne b hb
theorem mark_val (k j : Nat) (hk : k ≤ 1000) (hj : j ≤ 1000000) : IntKind.u8.wrap (31 * (k : Int) + 3 * (j : Int) + 1) = ((mark k j : Nat) : Int) := by
  rw [IntKind.wrap_u8]
  unfold mark
  omega
theorem mark_val2 (k j : Nat) : (31 * (k : Int) + 3 * (j : Int) + 1) % 256 = ((mark k j : Nat) : Int) := by
  unfold mark
  omega
def hdr (vs : Nat → Value) (m : Nat) : List Value := (List.range m).map vs
theorem hdr_at (vs : Nat → Value) (m k : Nat) (h : k < m) : (hdr vs m)[k]? = some (vs k) := by simp [hdr, h]
theorem Reads.hdr_get {w : World} {B m k : Nat} {A : Option Addr} {vs : Nat → Value} (h : Reads w B 1 A m (hdr vs m)) (hk : k < m) : ∃ ad, A = some ad ∧ w.cell? (ad.add k) = some (vs k) := by
  obtain ⟨ad, u, e, _, hx, hc⟩ := h.at_ hk
  rw [hdr_at vs m k hk] at hx
  injection hx with hx
  subst hx
  exact ⟨ad, e, hc⟩
end Go.Proofs.YtpklcmocjimcpaaDoor

/-
  Data cut into rows of 106 bytes: how many, which, and rows that read so. No condition.
-/
namespace Go.Proofs.YtpklcmocjimcpaaDoor
open Go.RowKit
set_option maxRecDepth 100000
set_option linter.unusedSimpArgs false
set_option linter.unusedVariables false
/-- how many rows -/
def pn (d : List Nat) : Nat := (d.length + 105) / 106
/-- the row of that place -/
def prow (d : List Nat) (i : Nat) : List Nat := (d.drop (106 * i)).take 106
theorem prow_len (d : List Nat) (i : Nat) : (prow d i).length = min 106 (d.length - 106 * i) := by simp [prow]
theorem prow_lt {d : List Nat} (h : ∀ b ∈ d, b < 256) (i : Nat) : ∀ b ∈ prow d i, b < 256 := fun b hb => h b (List.mem_of_mem_drop (List.mem_of_mem_take hb))
theorem prow_join (d : List Nat) (k : Nat) : (List.range k).flatMap (prow d) = d.take (106 * k) := by
  induction k with
  | zero => simp
  | succ k ih =>
    rw [List.range_succ, List.flatMap_append, ih]
    simp only [List.flatMap_cons, List.flatMap_nil, List.append_nil, prow]
    rw [show 106 * (k + 1) = 106 * k + 106 by omega, List.take_add]
theorem prow_all (d : List Nat) : (List.range (pn d)).flatMap (prow d) = d := by
  rw [prow_join, List.take_of_length_le]
  unfold pn
  omega
/-- rows that read as the data's, each somewhere below B -/
def Rowy (w : World) (B : Nat) (rs : Nat → Value) (d : List Nat) (k : Nat) : Prop := ∀ i, i < k → ∃ A c, rs i = .slice A (prow d i).length c ∧ Bytes w B A (prow d i).length (prow d i)
theorem Rowy.snoc {w : World} {B k : Nat} {rs : Nat → Value} {d : List Nat} (h : Rowy w B rs d k) {A : Option Addr} {n c : Nat} (hn : n = (prow d k).length) (hb : Bytes w B A n (prow d k)) : Rowy w B (fun i => if i = k then .slice A n c else rs i) d (k + 1) := by
  intro i hi
  subst hn
  by_cases e : i = k
  · subst e
    exact ⟨A, c, by simp, hb⟩
  · obtain ⟨A', c', h1, h2⟩ := h i (by omega)
    exact ⟨A', c', by simp [e, h1], h2⟩
theorem Rowy.below {w w' : World} {B k : Nat} {rs : Nat → Value} {d : List Nat} (h : Rowy w B rs d k) (hb : Below B w w') : Rowy w' B rs d k := fun i hi => by
  obtain ⟨A', c', h1, h2⟩ := h i hi
  exact ⟨A', c', h1, h2.below hb⟩
theorem hdr_snoc (rs : Nat → Value) (v : Value) (k : Nat) : hdr (fun i => if i = k then v else rs i) (k + 1) = hdr rs k ++ [v] := by
  unfold hdr
  rw [List.range_succ, List.map_append]
  congr 1
  · refine List.map_congr_left fun i hi => ?_
    have := List.mem_range.1 hi
    rw [if_neg (by omega)]
  · simp
theorem below_row {B : Nat} {w0 w w' : World} {base : Nat} {e : TypeId} {v : Value} {n : Nat} {xs : List Value} (h : Below B w0 w) (hown : w.ownsRow base e 1 v n xs) (hB : B ≤ base) (hg : w.grownBy w' v.ownBlock) (hs : B ≤ w.heap.size) : Below B w0 w' :=
  h.grown hg hs fun k hk => by have := (World.ownsRow.lt hown k hk).1; omega
end Go.Proofs.YtpklcmocjimcpaaDoor

/-
  slices.Chunk over bytes: its iterator hands the rows of 106 in order. Conditions: the slice's bytes lie below n₀, and the loop's body keeps what lies there.
-/
namespace Go.Proofs.YtpklcmocjimcpaaDoor
open Go.RowKit Go.Shelf Go.BigFrame
set_option maxRecDepth 100000
attribute [local go_sem] Oper.semAt_some
set_option linter.unusedSimpArgs false
set_option linter.unusedVariables false
def chunkA (A : Option Addr) (k : Nat) : Option Addr := A.map (·.add (106 * k))
def chunkN (d : List Nat) (k : Nat) : Nat := min 106 (d.length - 106 * k)
/-- the two blocks of a chunk's own lie as they lay -/
def Keep2 (Bs Bn : Nat) (W W' : World) : Prop := W'.heap[Bs]? = W.heap[Bs]? ∧ W'.heap[Bn]? = W.heap[Bn]?
theorem Keep2.refl (Bs Bn : Nat) (W : World) : Keep2 Bs Bn W W := ⟨rfl, rfl⟩
theorem Keep2.trans {Bs Bn : Nat} {A B C : World} (h : Keep2 Bs Bn A B) (k : Keep2 Bs Bn B C) : Keep2 Bs Bn A C := ⟨k.1.trans h.1, k.2.trans h.2⟩
theorem Keep2.drewN {Bs Bn : Nat} {A B : World} (h : Keep2 Bs Bn A B) (q : Nat) : Keep2 Bs Bn A (B.drewN q) := h
theorem Keep2.cells {Bs Bn : Nat} {A B : World} (h : Keep2 Bs Bn A B) {u v : Value} (h1 : A.cell? ⟨Bs, 0, none⟩ = some u) (h2 : A.cell? ⟨Bn, 0, none⟩ = some v) : B.cell? ⟨Bs, 0, none⟩ = some u ∧ B.cell? ⟨Bn, 0, none⟩ = some v :=
  ⟨(World.cell?_of_block (w := A) (a := ⟨Bs, 0, none⟩) h.1).trans h1, (World.cell?_of_block (w := A) (a := ⟨Bn, 0, none⟩) h.2).trans h2⟩
theorem Keep2.put {Bs Bn : Nat} {w : World} (h1 : Bs < w.heap.size) (h2 : Bn < w.heap.size) (W : World) (l : Nat) (o o' : Obj) (hl : w.heap.size ≤ l) (_ : W.heap[l]? = some o) (_ : o.isCells = false) (_ : o.isWalk = false) : Keep2 Bs Bn W (W.putObj l o') := by
  have hg := grownBy_putObj' W l o'
  have hlt : l < W.heap.size := by
    have h := (Array.getElem?_eq_some_iff.1 (by assumption : W.heap[l]? = some o)).1
    exact h
  exact ⟨hg.block Bs (by omega) (fun e => by injection e with e; omega), hg.block Bn (by omega) (fun e => by injection e with e; omega)⟩
def encC (A : Option Addr) (d : List Nat) (k : Nat) : Array Value := #[.slice (chunkA A k) (chunkN d k) (chunkN d k)]
set_option maxRecDepth 100000 in
set_option maxHeartbeats 2000000 in
theorem chunk1_in (F : Fence) (n : Nat) (hF : ∀ k, F.fn k) (hro : F.round = none) (hn : 1 ≤ n) (l Bs Bn : Nat) (A : Option Addr) (c : Nat) (d : List Nat) (hl : d.length ≤ 5000) (hc : d.length ≤ c) (hcm : c ≤ 9223372036854775807) (J Jx : List Nat → World → Prop)
    (hY : ∀ pre x W, J pre W → pre.length < pn d → YieldAt F (n - 1) Tryd.prog l (encC A d x) W fun e W' =>
      (e = .returned (.bool true) ∧ J (pre ++ [x]) W' ∧ Keep2 Bs Bn W W') ∨ (e = .returned (.bool false) ∧ Jx (pre ++ [x]) W'))
    (W : World) (hBc : W.cell? ⟨Bs, 0, none⟩ = some (.slice A d.length c)) (hNc : W.cell? ⟨Bn, 0, none⟩ = some (.int .i64 106)) (h0 : J [] W) (hJd : ∀ pre W q, J pre W → J pre (W.drewN q)) :
    CallsIn F n Tryd.prog 70 #[.func (.yield l) #[] #[], .pointer (some ⟨Bs, 0, none⟩), .pointer (some ⟨Bn, 0, none⟩)] W fun e W' => (∃ v, e = .returned v) ∧
      ((∃ ys, ys = List.range (pn d) ∧ J ys W') ∨ (∃ pre, (∃ k, k ≤ pn d ∧ pre = List.range k) ∧ Jx pre W')) := by
  refine callsIn_of_wp Tryd.func70 rfl (hF _) ?_ hro
  simp only [Tryd.ntmps70, List.size_toArray, List.length_cons, List.length_nil, Nat.reduceAdd, Nat.reduceSub, Array.replicate_succ, Array.replicate_zero, List.push_toArray, List.append_toArray, List.nil_append, List.cons_append]
  have HY := Lib.hid hY
  clear hY
  gi_wp2
  gi_loopw [4] (fun i wr => ∃ k : Nat, k ≤ pn d ∧ i = .int .i64 (106 * (k : Int)) ∧ J (List.range k) wr ∧ Keep2 Bs Bn W wr)
    (fun i _ => 5200 - (intOf i).toNat)
  case atStart => exact ⟨0, Nat.zero_le _, by simp, h0, Keep2.refl _ _ _⟩
  case round =>
    obtain ⟨k, hk, rfl, hJs, hnx⟩ := hrel
    obtain ⟨hc1, hc2⟩ := hnx.cells hBc hNc
    by_cases hlt : k < pn d
    · have Hs := Lib.hid (show List.range (k + 1) = List.range k ++ [k] from List.range_succ)
      have hkd : 106 * k < d.length := by unfold pn at hlt; omega
      have HH := Lib.hid (And.intro (fun q => HY.out _ k (wr.drewN q) (hJd _ _ q hJs) (by rw [List.length_range]; exact hlt)) (And.intro (fun q => hnx.drewN q) hlt))
      clear hJs hnx hlt hk
      obtain ⟨j, hj⟩ : ∃ j : Nat, j = 106 * k := ⟨_, rfl⟩
      have hji : 106 * (k : Int) = (j : Int) := by omega
      have Hj := Lib.hid (And.intro hj hji)
      rw [hji]
      rw [← hj] at hkd
      clear hj hji
      have hjd : (j : Int) < (d.length : Int) := by omega
      have hj0 : (0 : Int) ≤ (j : Int) := by omega
      have hjc : ¬ (c = j) := by omega
      by_cases hm : 106 ≤ d.length - j
      · have hmin : min 106 (d.length - j) = 106 := by omega
        have hmi : ¬ (((d.length - j : Nat) : Int) < 106) := by omega
        gi_wp2
        refine wpIn_region_quiet_lit hro (by kernel_rfl) (by kernel_rfl) ?_
        repeat (gi_big_quiet_step (fail))
        refine wpQuietIn_nil ?_
        rintro _ ⟨nq, rfl⟩
        obtain ⟨fn, tmps, assign, body, hy, hR⟩ := HH.out.1 nq
        dsimp only [encC, chunkA, chunkN] at hy
        rw [← Hj.out.1, hmin] at hy
        have hc1q : (wr.drewN nq).cell? ⟨Bs, 0, none⟩ = some (.slice A d.length c) := hc1
        have hc2q : (wr.drewN nq).cell? ⟨Bn, 0, none⟩ = some (.int .i64 106) := hc2
        clear hc1 hc2
        generalize hW : wr.drewN nq = wq at *
        have HB2 := HH.out.2.1 nq
        have Hlt := HH.out.2.2
        rw [hW] at HB2
        have HB3 := Lib.hid HB2
        clear HH HB2 hW
        gi_wp2
        refine hR.mono ?_
        rintro e W3 (⟨rfl, hJ3, hk3⟩ | ⟨rfl, hJx3⟩)
        · have hc3 : W3.cell? ⟨Bn, 0, none⟩ = some (.int .i64 106) := (hk3.cells hc1q hc2q).2
          gi_wp2
          go_roundw
          case rel => exact ⟨k + 1, by omega, by have := Hj.out.1; congr 1; omega, by rw [Hs.out]; exact hJ3, HB3.out.trans hk3⟩
          case measure => simp [intOf]; have := Hj.out.1; omega
        · gi_wp2
          refine bodyPost_ret (results_none rfl _ _ _) rfl ?_
          exact ⟨⟨_, rfl⟩, .inr ⟨_, ⟨k + 1, by omega, Hs.out.symm⟩, hJx3⟩⟩
      · have hmin : min 106 (d.length - j) = d.length - j := by omega
        have hmi : (((d.length - j : Nat) : Int) < 106) := by omega
        gi_wp2
        refine wpIn_region_quiet_lit hro (by kernel_rfl) (by kernel_rfl) ?_
        repeat (gi_big_quiet_step (fail))
        refine wpQuietIn_nil ?_
        rintro _ ⟨nq, rfl⟩
        obtain ⟨fn, tmps, assign, body, hy, hR⟩ := HH.out.1 nq
        dsimp only [encC, chunkA, chunkN] at hy
        rw [← Hj.out.1, hmin] at hy
        have hc1q : (wr.drewN nq).cell? ⟨Bs, 0, none⟩ = some (.slice A d.length c) := hc1
        have hc2q : (wr.drewN nq).cell? ⟨Bn, 0, none⟩ = some (.int .i64 106) := hc2
        clear hc1 hc2
        generalize hW : wr.drewN nq = wq at *
        have HB2 := HH.out.2.1 nq
        have Hlt := HH.out.2.2
        rw [hW] at HB2
        have HB3 := Lib.hid HB2
        clear HH HB2 hW
        gi_wp2
        refine hR.mono ?_
        rintro e W3 (⟨rfl, hJ3, hk3⟩ | ⟨rfl, hJx3⟩)
        · have hc3 : W3.cell? ⟨Bn, 0, none⟩ = some (.int .i64 106) := (hk3.cells hc1q hc2q).2
          gi_wp2
          go_roundw
          case rel => exact ⟨k + 1, by omega, by have := Hj.out.1; congr 1; omega, by rw [Hs.out]; exact hJ3, HB3.out.trans hk3⟩
          case measure => simp [intOf]; have := Hj.out.1; omega
        · gi_wp2
          refine bodyPost_ret (results_none rfl _ _ _) rfl ?_
          exact ⟨⟨_, rfl⟩, .inr ⟨_, ⟨k + 1, by omega, Hs.out.symm⟩, hJx3⟩⟩
    · obtain rfl : k = pn d := by omega
      have hge : ¬ (106 * ((pn d : Nat) : Int) < (d.length : Int)) := by unfold pn; omega
      gi_wp2
      go_end0
      exact ⟨⟨_, rfl⟩, .inl hJs⟩
theorem chunk_any (a : Option Addr) (len cap : Nat) (w : World) :
    Calls Tryd.prog 58 #[.slice a len cap, .int .i64 106] w fun e w' => e = .returned (.func (.func 70) #[] #[.pointer (some ⟨w.heap.size, 0, none⟩), .pointer (some ⟨w.heap.size + 1, 0, none⟩)]) ∧ w' = (w.alloc (.cells #[.slice a len cap] 34)).alloc (.cells #[.int .i64 106] 3) := by
  go_enter Tryd.func58, Tryd.ntmps58
  go_wp2
  go_ret
  exact ⟨rfl, rfl⟩
theorem drewN_grown (W : World) (q : Nat) : W.grownBy (W.drewN q) none := have h := World.grownBy.refl W none; ⟨h.os, h.tape, h.output, h.size, h.block⟩
theorem chunk_stops (F : Fence) (n : Nat) (hF : ∀ k, F.fn k) (hro : F.round = none) (hn : 1 ≤ n) (Bs Bn : Nat) (A : Option Addr) (c : Nat) (d : List Nat) (hl : d.length ≤ 5000) (hc : d.length ≤ c) (hcm : c ≤ 9223372036854775807) (w : World) (hBs : Bs < w.heap.size) (hBn : Bn < w.heap.size)
    (hcs : w.cell? ⟨Bs, 0, none⟩ = some (.slice A d.length c)) (hcn : w.cell? ⟨Bn, 0, none⟩ = some (.int .i64 106)) :
    SeqStopsK F n Tryd.prog 70 #[.pointer (some ⟨Bs, 0, none⟩), .pointer (some ⟨Bn, 0, none⟩)] (encC A d) (Keep2 Bs Bn) (fun ys => ys = List.range (pn d)) (fun pre => ∃ k, k ≤ pn d ∧ pre = List.range k) (pn d) w := fun l J Jx W hW hJ _ hY h0 =>
  chunk1_in F n hF hro hn l Bs Bn A c d hl hc hcm J Jx hY W ((hW.cell (p := ⟨Bs, 0, none⟩) hBs).trans hcs) ((hW.cell (p := ⟨Bn, 0, none⟩) hBn).trans hcn) h0
    (fun pre W1 q h => hJ pre W1 _ none h (drewN_grown W1 q) (fun r e => by cases e))
/-- a row that is handed reads as the data's -/
theorem chunk_bytes {w : World} {B : Nat} {A : Option Addr} {d : List Nat} (h : Bytes w B A d.length d) (x : Nat) : Bytes w B (chunkA A x) (chunkN d x) (prow d x) := by
  unfold chunkN
  by_cases hx : 106 * x < d.length
  · have h1 : Reads w B 1 (A.map (·.add (106 * x))) (d.length - 106 * x) (u8s (d.drop (106 * x))) := by
      have := h.1.cut (k := 106 * x) (cap := d.length + 1) (by omega) (by omega)
      rw [if_neg (by omega)] at this
      simpa [u8s, List.map_drop] using this
    have h2 : Bytes w B (chunkA A x) (d.length - 106 * x) (d.drop (106 * x)) := ⟨h1, fun b hb => h.2 b (List.mem_of_mem_drop hb)⟩
    have h3 := h2.take (k := min 106 (d.length - 106 * x)) (by omega)
    have e : (d.drop (106 * x)).take (min 106 (d.length - 106 * x)) = prow d x := by
      unfold prow
      rw [← List.length_drop, Nat.min_comm, ← List.take_take]
      exact List.take_of_length_le (by rw [List.length_take]; exact Nat.min_le_right _ _)
    rwa [e] at h3
  · have e : prow d x = [] := by unfold prow; rw [List.drop_of_length_le (by omega)]; rfl
    rw [e, show min 106 (d.length - 106 * x) = 0 by omega]
    exact ⟨Reads.none_, fun b hb => by cases hb⟩
end Go.Proofs.YtpklcmocjimcpaaDoor

/-
  The document's Parts: the data's rows, of 106 bytes each but the last. Conditions: the data read as bytes.
-/
namespace Go.Proofs.YtpklcmocjimcpaaDoor
open Go.RowKit
set_option maxRecDepth 100000
set_option linter.unusedSimpArgs false
set_option linter.unusedVariables false
end Go.Proofs.YtpklcmocjimcpaaDoor

/-
  The laws' own Rows returns true of rows that read as the same data's. Conditions: the headers and the rows read so.
-/
namespace Go.Proofs.YtpklcmocjimcpaaDoor
open Go.RowKit
set_option maxRecDepth 100000
set_option linter.unusedSimpArgs false
set_option linter.unusedVariables false
theorem Rowy.since {w w' : World} {B k : Nat} {rs : Nat → Value} {d : List Nat} (h : Rowy w B rs d k) (hb : Below w.heap.size w w') : Rowy w' B rs d k := fun i hi => by
  obtain ⟨A', c', h1, h2⟩ := h i hi
  exact ⟨A', c', h1, h2.since hb⟩
set_option maxRecDepth 100000 in
set_option maxHeartbeats 2000000 in
theorem rows_any (A A' : Option Addr) (m c c' B B' B1 B1' : Nat) (rs rs' : Nat → Value) (d : List Nat) (w : World) (hR : Reads w B 1 A m (hdr rs m)) (hR' : Reads w B' 1 A' m (hdr rs' m)) (h : Rowy w B1 rs d m) (h' : Rowy w B1' rs' d m) (hm : m ≤ 1000) :
    Calls Tryd.prog 42 #[.slice A m c, .slice A' m c'] w fun e w' => e = .returned (.bool true) ∧ Below w.heap.size w w' := by
  have HR := Lib.hid (And.intro hR hR')
  have HY := Lib.hid (And.intro h h')
  clear hR hR' h h'
  go_enter Tryd.func42, Tryd.ntmps42
  go_wp2
  go_loopw [13] (fun i wr => ∃ k : Nat, k ≤ m ∧ i = .int .i64 k ∧ Below w.heap.size w wr) (fun i _ => m - (intOf i).toNat)
  case atStart => exact ⟨0, Nat.zero_le _, rfl, Below.refl _ _⟩
  case round =>
    obtain ⟨k, hk, rfl, hb⟩ := hrel
    by_cases hlt : k < m
    · obtain ⟨ad, rfl, hc⟩ := (show Reads wr B 1 A m (hdr rs m) from Reads.since HR.out.1 hb).hdr_get hlt
      obtain ⟨ad', rfl, hc'⟩ := (show Reads wr B' 1 A' m (hdr rs' m) from Reads.since HR.out.2 hb).hdr_get hlt
      obtain ⟨Ai, ci, e1, hy⟩ := HY.out.1.since hb k hlt
      obtain ⟨Ai', ci', e2, hy'⟩ := HY.out.2.since hb k hlt
      rw [e1] at hc
      rw [e2] at hc'
      have k1 := fun q => str_of (P := Tryd.prog) (hy.drewN q) ci 34 9 5 Tryd.underlying34 Tryd.underlying5 Tryd.underlying9
      have k2 := fun q => str_of (P := Tryd.prog) (hy'.drewN q) ci' 34 9 5 Tryd.underlying34 Tryd.underlying5 Tryd.underlying9
      have hk0 : (0 : Int) ≤ (k : Int) := by omega
      have hk1 : (k : Int) < (m : Int) := by omega
      have HB := Lib.hid hb
      clear hb hy hy' e1 e2
      generalize strOf (prow d k) = s1 at *
      go_wp2_with fail
      go_quiet (fail)
      go_wp2
      exact ⟨⟨k + 1, by omega, by go_num, below_drewN HB.out _⟩, by simp only [intOf]; omega⟩
    · obtain rfl : k = m := by omega
      go_wp2
      go_ret
      exact ⟨rfl, hb⟩
end Go.Proofs.YtpklcmocjimcpaaDoor

/-
  What the laws' own Copy and Kept return. Conditions: the bytes are no more than a million.
-/
namespace Go.Proofs.YtpklcmocjimcpaaDoor
open Go.RowKit
set_option maxRecDepth 100000
theorem mine_bytes {w w0 : World} {B B0 g n cap : Nat} {A : Option Addr} {bs : List Nat} (hm : Own w B (.slice (some ⟨g, 0, none⟩) (n + 2) cap) (n + 2) (bs ++ [165, 90])) (hb : Bytes w0 B0 A n bs) :
    Bytes w w.heap.size (some ⟨g, 0, none⟩) n bs := by
  have hmb := hm.bytes (fun x hx => by
    rcases List.mem_append.1 hx with hx | hx
    · exact hb.2 x hx
    · simp at hx; omega)
  refine ⟨?_, hb.2⟩
  have := hmb.1.take (k := n) (by omega)
  rwa [u8s, ← List.map_take, List.take_left' (by have := hb.len; omega)] at this
end Go.Proofs.YtpklcmocjimcpaaDoor

/-
  The law BoxParts, walked, where the package's Parts returns the data's rows in blocks of their own: it returns true and changes nothing that was there. Conditions: the data read as bytes; the package's table holds its sixteen numbers.
-/
namespace Go.Proofs.YtpklcmocjimcpaaDoor
open Go.RowKit
set_option maxRecDepth 100000
set_option linter.unusedSimpArgs false
set_option linter.unusedVariables false
/-- what the package's Parts answers -/
def PartsPost (d : List Nat) (w : World) (e : Ending) (w' : World) : Prop :=
  ∃ v rs, e = .returned v ∧ w'.ownsRow w.heap.size 34 1 v (pn d) (hdr rs (pn d)) ∧ (∀ i, i < pn d → Own w' w.heap.size (rs i) (prow d i).length (prow d i)) ∧ (∀ i j, i < pn d → j < pn d → i ≠ j → ∀ b, (rs i).ownBlock = some b → (rs j).ownBlock ≠ some b) ∧ Below w.heap.size w w'
theorem mine_less {w : World} {base g n cap : Nat} {bs m : List Nat} (h : Own w base (.slice (some ⟨g, 0, none⟩) (n + 2) cap) (n + 2) (bs ++ m)) (hl : bs.length = n) : Own w base (.slice (some ⟨g, 0, none⟩) n cap) n bs := by
  refine ⟨by rw [u8s_length]; omega, ?_⟩
  rcases h.2 with ⟨h, _⟩ | ⟨g', cap', cur, hv, h1, h2, h3, h4, h5, h6⟩
  · cases h
  · injection hv with e1 e2 e3
    injection e1 with e1
    injection e1 with e1
    subst e1 e3
    refine .inr ⟨g, cap, cur, rfl, h1, h2, by omega, h4, h5, ?_⟩
    have := congrArg (List.take (n * 1)) h6
    rw [List.take_take, u8s, List.map_append, List.take_left' (by simp; omega)] at this
    rw [show min (n * 1) ((n + 2) * 1) = n * 1 by omega] at this
    exact this
theorem app_rows {w : World} {ops : Array Oper} {rest : List Oper} {o : Oper} {a : Act} {Q : Exit → Act → World → Prop} (s x : Operand)
    (hgd : Region.wanted o (yielded ops a.tmps) = true) (ho : o.op = .call { callee := .builtin .append, args := #[s, x], argTypes := #[36, 36] })
    (base : Nat) (v : Value) (n : Nat) (xs : List Value) (hs : a.eval s = v) (hown : w.ownsRow base 34 1 v n xs)
    (B : Nat) (A : Option Addr) (m c : Nat) (us : List Value) (hx : a.eval x = .slice A m c) (hr : Reads w B 1 A m us) (hu : ∀ u ∈ us, u.oneCell' = true) (hn : n ≤ 1000000) (hm : m ≤ 1000000) (hbase : base ≤ w.heap.size)
    (h : ∀ v' w', w'.ownsRow base 34 1 v' (n + m) (xs ++ us) → w.grownBy w' v.ownBlock → wpList Tryd.prog ops Q rest (a.put o.dst v') w') :
    wpList Tryd.prog ops Q (o :: rest) a w := by
  obtain ⟨i0, hi0, hz0, hz1, hz2⟩ := info_parts slice_info
  refine wpList_wanted hgd fun K hK => ?_
  refine wp_append_any w s x _ ho base 34 i0 _ 1 24 Tryd.underlying36 hi0 hz0 hz1 hz2 rfl (by omega) v n xs hs hown B A m c us hx hr hu (by simp only [maxLen]; omega) (by omega) hbase ?_
  intro v' w' h1 h2 h3
  exact hK _ _ (h v' w' h1 h2)
theorem hdr_cons (v : Value) (rs : Nat → Value) (m : Nat) : [v] ++ hdr rs m = hdr (fun i => if i = 0 then v else rs (i - 1)) (1 + m) := by
  unfold hdr
  rw [Nat.add_comm, List.range_succ_eq_map]
  simp [List.map_map, Function.comp_def]
theorem rowed_cons {w : World} {base b1 m : Nat} {v : Value} {n : Nat} {bs : List Nat} {rs : Nat → Value} {ns : Nat → Nat} {bd : Nat → List Nat} (h0 : Own w base v n bs) (hlt : ∀ b, v.ownBlock = some b → b < b1) (h1 : ∀ i, i < m → Own w b1 (rs i) (ns i) (bd i))
    (hd : ∀ i j, i < m → j < m → i ≠ j → ∀ b, (rs i).ownBlock = some b → (rs j).ownBlock ≠ some b) (hb : base ≤ b1) : Rowed w base (fun i => if i = 0 then v else rs (i - 1)) (fun i => if i = 0 then n else ns (i - 1)) (1 + m) := by
  refine ⟨fun i hi => ?_, fun i j hi hj hne b hv => ?_⟩
  · by_cases h : i = 0
    · rw [if_pos h, if_pos h]; exact ⟨bs, h0⟩
    · rw [if_neg h, if_neg h]; exact ⟨_, (h1 (i - 1) (by omega)).weaken hb⟩
  · change Value.ownBlock (if i = 0 then v else rs (i - 1)) = some b at hv
    change Value.ownBlock (if j = 0 then v else rs (j - 1)) ≠ some b
    by_cases h : i = 0
    · rw [if_pos h] at hv
      rw [if_neg (by omega)]
      intro e
      have := hlt b hv
      have := (World.ownsRow.lt (h1 (j - 1) (by omega)) b e).1
      omega
    · rw [if_neg h] at hv
      by_cases h' : j = 0
      · rw [if_pos h']
        intro e
        have := hlt b e
        have := (World.ownsRow.lt (h1 (i - 1) (by omega)) b hv).1
        omega
      · rw [if_neg h']
        exact hd (i - 1) (j - 1) (by omega) (by omega) (by omega) b hv
end Go.Proofs.YtpklcmocjimcpaaDoor
