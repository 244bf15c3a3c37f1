/-
  The disk, as the chapter tells it, in plain words of lists; where the program's disk lies in memory. No condition.
-/
import Derived.Test.YtgcghoalepkdfaaRows
import Derived.Test.YtgcghoalepkdfaaObj
import Derived.WalkKit
import Derived.ProofKit
namespace Go.Proofs.Ytgcghoalepkdfaa
open Go.RowKit

/-- a sector's bytes -/
structure Sec where
  l : List Nat
  len : l.length = 128
  lt : ∀ b ∈ l, b < 256
theorem Sec.ext_ {s t : Sec} (h : s.l = t.l) : s = t := by cases s; cases t; cases h; rfl
noncomputable instance : DecidableEq Sec := fun _ _ => Classical.propDecidable _
def Sec.cs (s : Sec) : List Value := u8s s.l
def Sec.v (s : Sec) : Value := .agg s.cs.toArray
def Sec.zero : Sec := ⟨List.replicate 128 0, by simp, by intro b hb; obtain ⟨_, rfl⟩ := List.mem_replicate.1 hb; omega⟩
def Sec.full (b : Nat) (h : b < 256) : Sec := ⟨List.replicate 128 b, by simp, by intro c hc; obtain ⟨_, rfl⟩ := List.mem_replicate.1 hc; exact h⟩
theorem Sec.cs_len (s : Sec) : s.cs.length = 128 := by simp [Sec.cs, u8s, s.len]
theorem Sec.one (s : Sec) : ∀ u ∈ s.cs, u.oneCell' = true := oneCell_u8s _
theorem u8s_inj : ∀ {a b : List Nat}, u8s a = u8s b → a = b
  | [], [], _ => rfl
  | [], _ :: _, h => by simp [u8s] at h
  | _ :: _, [], h => by simp [u8s] at h
  | x :: a, y :: b, h => by
    simp only [u8s, List.map_cons, List.cons.injEq] at h
    obtain ⟨h1, h2⟩ := h
    have : x = y := by simp only [u8, Value.int.injEq] at h1; omega
    rw [this, u8s_inj (a := a) (b := b) h2]
theorem Sec.v_inj {s t : Sec} (h : s.v = t.v) : s = t := by
  unfold Sec.v at h
  injection h with h
  exact Sec.ext_ (u8s_inj (List.toArray_inj h))

structure DM where
  n : Nat
  sure : Int → Sec
  wait : List (Int × Sec)
  steps : Nat
  armed : Bool
  left : Nat
  gone : Bool
def DM.new (n : Nat) : DM := ⟨n, fun _ => .zero, [], 0, false, 0, false⟩
/-- is a step refused? -/
def DM.off (d : DM) : Bool := d.gone || (d.armed && decide (d.left = 0))
def DM.step (d : DM) : DM := if d.off then { d with gone := true } else { d with steps := d.steps + 1, left := if d.armed then d.left - 1 else d.left }
def DM.stepErr (d : DM) : Nat := if d.off then 3 else 0
def armErr (k : Int) : Nat := if k < 0 then 1 else 0
theorem DM.step_wait (d : DM) : d.step.wait = d.wait := by unfold DM.step; split <;> rfl
theorem DM.step_sure (d : DM) : d.step.sure = d.sure := by unfold DM.step; split <;> rfl
theorem DM.step_n (d : DM) : d.step.n = d.n := by unfold DM.step; split <;> rfl
def DM.has (d : DM) (i : Int) : Bool := decide (0 ≤ i) && decide (i < d.n)
def DM.write (d : DM) (i : Int) (s : Sec) : DM := if d.has i then (if d.off then d.step else { d.step with wait := d.wait ++ [(i, s)] }) else d
def DM.writeErr (d : DM) (i : Int) : Nat := if d.has i then (if d.off then 3 else 0) else 1
/-- what is sure behind writes, of whom those are done whose place is kept -/
def settled (kept : Nat → Bool) : Nat → List (Int × Sec) → (Int → Sec) → (Int → Sec)
  | _, [], f => f
  | n, x :: l, f => settled kept (n + 1) l (if kept n then (fun k => if k = x.1 then x.2 else f k) else f)
def upd (f : Int → Sec) (x : Int × Sec) : Int → Sec := fun k => if k = x.1 then x.2 else f k
theorem settled_snoc (kept : Nat → Bool) (x : Int × Sec) : ∀ (l : List (Int × Sec)) (n : Nat) (f : Int → Sec), settled kept n (l ++ [x]) f = (if kept (n + l.length) then upd (settled kept n l f) x else settled kept n l f)
  | [], n, f => by simp only [List.nil_append, settled, List.length_nil, Nat.add_zero]; rfl
  | y :: l, n, f => by
    simp only [List.cons_append, settled, List.length_cons]
    rw [settled_snoc kept x l (n + 1), show n + 1 + l.length = n + (l.length + 1) by omega]
def DM.settle (d : DM) (kept : Nat → Bool) : DM := { d with sure := settled kept 0 d.wait d.sure, wait := [] }
def DM.flush (d : DM) : DM := if d.off then d.step else d.step.settle (fun _ => true)
def DM.restore (d : DM) : DM := { d with armed := false, left := 0, gone := false }
def keptOf (keep : List Bool) (n : Nat) : Bool := keep[n]?.getD false
def DM.crash (d : DM) (keep : List Bool) : DM := (d.settle (keptOf keep)).restore
def DM.arm (d : DM) (k : Int) : DM := if k < 0 then d else { d with armed := true, left := k.toNat }
/-- the last write of a sector among those that wait -/
def lastOf (i : Int) (l : List (Int × Sec)) : Option Sec := (l.reverse.find? fun x => x.1 == i).map (·.2)
def DM.read (d : DM) (i : Int) : Sec := if d.gone || !d.has i then .zero else (lastOf i d.wait).getD (d.sure i)
def DM.readErr (d : DM) (i : Int) : Nat := if d.gone then 3 else if d.has i then 0 else 1

/-- an error's value -/
def errV : Nat → Value
  | 0 => .nilIface
  | k => .iface 31 (.int .i64 k)

/-- a write that waits, as cells -/
def wrc (x : Int × Sec) : List Value := x.2.cs ++ [.int .i64 x.1]
def dcells (d : DM) (gm : Nat) (v : Value) : Array Value := #[.int .i64 d.steps, .bool d.armed, .int .i64 d.left, .bool d.gone, .int .i64 d.n, .map (some gm), v]
/-- the disk d lies at g: its map at gm, its writes that wait in v -/
structure Lies (w : World) (base g gm : Nat) (v : Value) (d : DM) : Prop where
  blk : Blk w g 67 (dcells d gm v)
  map : ∃ f, MapAt w gm f ∧ ∀ k, (f k).getD Sec.zero.v = (d.sure k).v
  row : w.ownsRow base 76 129 v d.wait.length (d.wait.flatMap wrc)
  bg : base ≤ g
  bm : base ≤ gm
def DiskAt (w : World) (base : Nat) (F : List Nat) (g : Nat) (d : DM) : Prop := ∃ gm v, F = g :: gm :: rowOf v ∧ Lies w base g gm v d

/-- a call that left the disk as d', and turned nothing but the disk -/
def DTo (w : World) (base : Nat) (F : List Nat) (g : Nat) (d' : DM) (w' : World) : Prop := ∃ F', DiskAt w' base F' g d' ∧ Only F w w' ∧ Fresh w F F'
section
variable {w w' : World} {base g : Nat} {F G : List Nat} {d : DM}
theorem Lies.to {gm : Nat} {v : Value} (h : Lies w' base g gm v d) (ho : Only [g] w w') : DTo w base (g :: gm :: rowOf v) g d w' :=
  ⟨_, ⟨gm, v, rfl, h⟩, ho.mono (fun k hk => by simp at hk; simp [hk]), Fresh.refl _ _⟩
theorem DTo.trans {d' : DM} {w1 : World} {F1 : List Nat} (ho : Only F w w1) (hf : Fresh w F F1) (h : DTo w1 base F1 g d' w') : DTo w base F g d' w' := by
  obtain ⟨F2, h1, h2, h3⟩ := h
  exact ⟨F2, h1, ho.trans h2 hf, hf.trans h3 ho.size⟩
theorem DiskAt.of (h : DiskAt w base F g d) (hk : ∀ k, k ∈ F → w'.heap[k]? = w.heap[k]?) : DiskAt w' base F g d := by
  obtain ⟨gm, v, rfl, h⟩ := h
  obtain ⟨f, h1, h2⟩ := h.map
  exact ⟨gm, v, rfl, ⟨h.blk.of (hk g (by simp)), ⟨f, h1.of (hk gm (by simp)), h2⟩, row_of h.row (fun k hk' => hk k (by simp [hk'])), h.bg, h.bm⟩⟩
theorem DiskAt.under (h : DiskAt w base F g d) : Under w F := by
  obtain ⟨gm, v, rfl, h⟩ := h
  obtain ⟨f, h1, _⟩ := h.map
  intro k hk
  simp only [List.mem_cons] at hk
  rcases hk with rfl | rfl | hk
  · exact h.blk.lt
  · exact h1.lt
  · exact row_under h.row k hk
theorem DiskAt.over (h : DiskAt w base F g d) : Over base F := by
  obtain ⟨gm, v, rfl, h⟩ := h
  intro k hk
  simp only [List.mem_cons] at hk
  rcases hk with rfl | rfl | hk
  · exact h.bg
  · exact h.bm
  · exact row_over h.row k hk
theorem Lies.keep {gm : Nat} {v : Value} (h : Lies w base g gm v d) (hk : ∀ k, k ∈ g :: gm :: rowOf v → w'.heap[k]? = w.heap[k]?) : Lies w' base g gm v d := by
  obtain ⟨f, h1, h2⟩ := h.map
  exact ⟨h.blk.of (hk g (by simp)), ⟨f, h1.of (hk gm (by simp)), h2⟩, row_of h.row (fun k hk' => hk k (by simp [hk'])), h.bg, h.bm⟩
theorem Lies.under {gm : Nat} {v : Value} (h : Lies w base g gm v d) : Under w (g :: gm :: rowOf v) := DiskAt.under (F := g :: gm :: rowOf v) (d := d) (base := base) (g := g) ⟨gm, v, rfl, h⟩
theorem Lies.alloc {gm : Nat} {v : Value} (h : Lies w base g gm v d) (o : Obj) : Lies (w.alloc o) base g gm v d := h.keep fun k hk => Below.heap_alloc w o k (h.under k hk)
theorem Lies.drew {gm : Nat} {v : Value} (h : Lies w base g gm v d) : Lies w.drew base g gm v d := h.keep fun _ _ => rfl
theorem Lies.drewN {gm : Nat} {v : Value} (h : Lies w base g gm v d) (n : Nat) : Lies (w.drewN n) base g gm v d := h.keep fun _ _ => rfl
theorem Lies.below {gm : Nat} {v : Value} (h : Lies w base g gm v d) (hb : Below w.heap.size w w') : Lies w' base g gm v d := h.keep fun k hk => hb.block k (h.under k hk)
theorem Lies.cells {gm : Nat} {v : Value} (h : Lies w base g gm v d) : w.cell? ⟨g, 0, none⟩ = some (.int .i64 d.steps) ∧ w.cell? ⟨g, 1, none⟩ = some (.bool d.armed) ∧ w.cell? ⟨g, 2, none⟩ = some (.int .i64 d.left) ∧
    w.cell? ⟨g, 3, none⟩ = some (.bool d.gone) ∧ w.cell? ⟨g, 4, none⟩ = some (.int .i64 d.n) ∧ w.cell? ⟨g, 5, none⟩ = some (.map (some gm)) ∧ w.cell? ⟨g, 6, none⟩ = some v ∧ ∀ i, w.frozen? ⟨g, i, none⟩ = false :=
  ⟨by rw [h.blk.cell]; rfl, by rw [h.blk.cell]; rfl, by rw [h.blk.cell]; rfl, by rw [h.blk.cell]; rfl, by rw [h.blk.cell]; rfl, by rw [h.blk.cell]; rfl, by rw [h.blk.cell]; rfl, fun i => h.blk.frozen i⟩
/-- a write that came waits -/
theorem Lies.waits {gm : Nat} {v v2 : Value} {x : Int × Sec} {w1 w2 : World} {o : Obj} (h : Lies w1 base g gm v d) (hg : (w1.drew.alloc o).grownBy w2 v.ownBlock) (hown : w2.ownsRow base 76 129 v2 (d.wait.length + 1) (d.wait.flatMap wrc ++ wrc x)) :
    Lies (w2.setCell ⟨g, 6, none⟩ v2) base g gm v2 { d with wait := d.wait ++ [x] } := by
  obtain ⟨f, h1, h2⟩ := h.map
  have hgw := h.blk.lt
  have hne : gm ≠ g := h1.ne_blk h.blk
  have hb2 : Blk w2 g 67 (dcells d gm v) := (h.blk.drew.alloc o).grown hg (Ne.symm (own_blk_ne h.row h.blk (by decide)))
  have hm2 : MapAt w2 gm f := (h1.of (w' := w1.drew.alloc o) (Below.heap_alloc w1 o gm h1.lt)).of (hg.block gm (by have := h1.lt; simp; omega) (Ne.symm (h1.ne_row h.row)))
  refine ⟨?_, ⟨f, hm2.of (Below.heap_setCell _ _ _ _ hne), h2⟩, ?_, h.bg, h.bm⟩
  · exact hb2.set_ 6 v2
  · have e : (d.wait ++ [x]).flatMap wrc = d.wait.flatMap wrc ++ wrc x := by simp
    show World.ownsRow _ base _ 129 v2 (d.wait ++ [x]).length ((d.wait ++ [x]).flatMap wrc)
    rw [e, List.length_append]
    refine row_of hown fun k hk => Below.heap_setCell _ _ _ _ ?_
    rintro rfl
    exact own_blk_ne hown hb2 (by decide) (mem_rowOf.1 hk)
/-- a write is sure -/
theorem Lies.maps {gm : Nat} {v : Value} {x : Int × Sec} {w1 w3 : World} {f : Int → Option Value} (h : Lies w1 base g gm v d) (hf : ∀ k, (f k).getD Sec.zero.v = (d.sure k).v) (hg : w1.grownBy w3 (some gm)) (hm : MapAt w3 gm (fun k => if k = x.1 then some x.2.v else f k)) :
    Lies w3 base g gm v { d with sure := upd d.sure x } := by
  obtain ⟨f0, h1, _⟩ := h.map
  have hne : gm ≠ g := h1.ne_blk h.blk
  refine ⟨h.blk.of (hg.block g h.blk.lt (by simpa using Ne.symm hne)), ⟨_, hm, fun k => ?_⟩, ?_, h.bg, h.bm⟩
  · show _ = (upd d.sure x k).v
    unfold upd
    by_cases hk : k = x.1 <;> simp [hk, hf]
  · refine row_of h.row fun k hk => hg.block k (row_under h.row k hk) ?_
    intro e
    injection e with e
    subst e
    exact h1.ne_row h.row (mem_rowOf.1 hk)
end
end Go.Proofs.Ytgcghoalepkdfaa
