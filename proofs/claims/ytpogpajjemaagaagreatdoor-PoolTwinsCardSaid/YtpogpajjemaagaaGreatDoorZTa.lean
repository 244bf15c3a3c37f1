/- Texts of the walk, joined. -/
import Derived.Below
import Derived.Laws.OwnMore
import Derived.Deep.AppendLies
import Derived.Deep.Draws
import Derived.Laws.Rows
import Derived.Lib.Hide
import Derived.Maps.AppendAt
import Derived.RegionTactic
import Derived.OwnWalk
import Derived.Laws.BitsAllLaws
import Derived.WalkKit
import Derived.ProofKit
import Derived.MapKept
import Derived.Maps.Own
import Derived.Tactics
import Derived.Deep.MidRow
import Derived.Test.YtpogpajjemaagaaGreatDoorRows
import Derived.Great.FillDense
import Derived.Laws.Tables
import Derived.Great.BuildSlice
import Derived.KernelRfl
import Derived.Deep.WholeRow
import Derived.Handy
import Derived.Outline
import Derived.WalkLawsBesides
import Derived.WalkSpells
import Derived.Deep.RegionHeld3
import Derived.Deep.DrawnRows
import Derived.Laws.BytesArg
import Derived.Lib.ConvBytes
import Derived.Laws.CopyOwn
import Derived.Laws.MakeOwn
import Derived.Deep.DeepFit
import Derived.Deep.QuietTactic
import Derived.BigQuiet
import Derived.RangeFuncNested
import Derived.RangeFuncBound
import Derived.RangeFuncCalls
import Derived.RangeFuncLeaves
import Derived.Shelf.Abstract
import Derived.Shelf.RegionOpen
import Derived.OwnWalkIn
import Derived.TacticsInMore
import Derived.LoopNIn
import Derived.LoopIn
namespace Go.Proofs.YtpogpajjemaagaaGreatDoor
set_option linter.unusedSimpArgs false
set_option linter.unusedVariables false
set_option maxRecDepth 100000
open Go.Proofs.Tryz
def pu : Option Nat → List Value → Value → List Value
 | none, l, _ => l
 | some _, [], _ => []
 | some 0, _ :: l, v => v :: l
 | some (n + 1), a :: l, v => a :: pu (some n) l v
theorem pu_set : ∀ (l : List Value) (i : Nat) (v : Value), pu (some i) l v = l.set i v
 | [], i, v => by simp [pu]
 | _ :: l, 0, v => by simp [pu]
 | a :: l, n + 1, v => by simp [pu, pu_set l n v]
theorem nH {l : List Value} {d : List Deferred} {o : Option Nat} {v : Value} : Act.put ⟨l.toArray, d⟩ o v = ⟨(pu o l v).toArray, d⟩ := by
 cases o with
 | none => cases l <;> rfl
 | some i => simp [Act.put, pu_set]
theorem wK (k : Nat) (h : k < 9223372036854775807) : IntKind.i64.wrap ((k : Int) + 1) = (k : Int) + 1 := by rw [IntKind.wrap_i64]; omega
abbrev LN := List Nat
abbrev OA := Option Addr
theorem kR (n : Nat) : n <= n := Nat.le_refl n
theorem kT {n m k : Nat} (a : n <= m) (b : m <= k) : n <= k := Nat.le_trans a b
theorem kL {n m k : Nat} (a : n < m) (b : m <= k) : n < k := Nat.lt_of_lt_of_le a b
theorem kN {α : Type _} {a b : List α} : (a ++ b).length = a.length + b.length := List.length_append
theorem kM {α : Type _} (y : α) {a : α} {l : List α} (h : a ∈ l) : a ∈ y :: l := List.mem_cons_of_mem y h
theorem kH {p : Prop} (h : p) : Go.RowKit.Hid p := h
theorem kA {p q : Prop} (a : p) (b : q) : p /\ q := ⟨a, b⟩
set_option maxHeartbeats 16000000
open Go.RowKit Go.BigFrame
open List (append_assoc append_nil append_toArray cons_append drop_of_length_le eq_nil_of_length_eq_zero flatMap_cons length_cons length_drop length_nil length_take map_append map_cons map_drop map_map map_nil map_take mem_append mem_cons mem_iff_getElem mem_of_mem_drop mem_of_mem_take mem_replicate mem_singleton nil_append push_toArray range_succ setIfInBounds_toArray size_toArray take_add_one take_append_drop take_length take_of_length_le)
abbrev kB := @Below.refl
abbrev kD := @World.ownsRow.lt
abbrev kE := @Below.heap_setCell
abbrev kG := @Below.heap_alloc
abbrev kI := @IntKind.wrap_i64
abbrev kJ := @World.size_alloc
abbrev kP := @Int.toNat_natCast
abbrev kS := @Result.andThen_ok
abbrev kY := @Nat.zero_le
abbrev kZ := @bodyPost_end
theorem kX {α : Sort _} (a : α) : ∃ x, x = a := ⟨a, rfl⟩
theorem kQ {α : Type _} {a b : α} {l : List α} (h : a ∈ b :: l) : a = b \/ a ∈ l := List.mem_cons.1 h
variable {B base f g gm i j k n : Nat} {e kt t : TypeId} {l : Array Bool} {a : Act} {w w' : World} {row : Option Nat} {xs : List Value} {o oL oi : Oper} {K : Act -> World -> Prop} {Q : Exit -> Act -> World -> Prop} {ops : Array Oper} {A : OA} {P : Program} {bs : LN}
theorem nB {α : Type _} {xs : List α} (h : i < xs.toArray.size) : xs.toArray[i] = xs[i]'(by simpa using h) := rfl
theorem nC {α : Type _} {a : α} {l : List α} (h : i + 1 < (a :: l).length) : (a :: l)[i + 1] = l[i]'(Nat.lt_of_succ_lt_succ h) := rfl
theorem nD {α : Type _} {a : α} {l : List α} (h : 0 < (a :: l).length) : (a :: l)[0] = a := rfl
theorem nE {α : Type _} (l : List α) (i : Nat) (a : α) : l.toArray.setIfInBounds i a = (l.set i a).toArray := setIfInBounds_toArray ..
theorem nF {α : Type _} {a : α} {l : List α} {b : α} : (a :: l).set 0 b = b :: l := rfl
theorem nG {α : Type _} {a : α} {l : List α} {b : α} : (a :: l).set (n + 1) b = a :: l.set n b := rfl
section
theorem x0K (a : Addr) (n : Nat) : (a.add n).block = a.block := by unfold Addr.add; split <;> rfl
theorem x1Q (a : Addr) (i j : Nat) : (a.add i).add j = a.add (i + j) := by
 unfold Addr.add
 by_cases hi : i = 0 <;> by_cases hj : j = 0 <;> simp [hi, hj, Nat.add_assoc]
def Reads (w : World) (B size : Nat) (A : OA) (n : Nat) (xs : List Value) : Prop :=
  xs.length = n * size /\ (0 < n -> ∃ ad, A = some ad /\ ad.block < B /\ ∀ j u, xs[j]? = some u -> w.cell? (ad.add j) = some u)
section
variable {w w' : World} {B B' size n : Nat} {A : OA} {xs : List Value}
theorem Reads.none_ : Reads w B size A 0 [] := ⟨by simp, fun h => absurd h (by omega)⟩
theorem Reads.at_ (h : Reads w B 1 A n xs) (hk : k < n) : ∃ ad u, A = some ad /\ ad.block < B /\ xs[k]? = some u /\ w.cell? (ad.add k) = some u := by
 obtain ⟨ad, e, hb, hc⟩ := h.2 (by omega)
 have hl : k < xs.length := by have := h.1; omega
 exact ⟨ad, xs[k], e, hb, List.getElem?_eq_getElem hl, hc k _ (List.getElem?_eq_getElem hl)⟩
theorem Reads.keep (h : Reads w B size A n xs) (hk : ∀ p : Addr, p.block < B -> w'.cell? p = w.cell? p) : Reads w' B size A n xs :=
 ⟨h.1, fun hn => by
  obtain ⟨ad, e, hb, hc⟩ := h.2 hn
  exact ⟨ad, e, hb, fun j u hu => (hk _ (by rw [x0K]; exact hb)).trans (hc j u hu)⟩⟩
theorem Reads.more (h : Reads w B size A n xs) (hB : B <= B') : Reads w B' size A n xs :=
 ⟨h.1, fun hn => by
  obtain ⟨ad, e, hb, hc⟩ := h.2 hn
  exact ⟨ad, e, by omega, hc⟩⟩
theorem Reads.below (h : Reads w B size A n xs) (hb : Below B w w') : Reads w' B size A n xs := h.keep fun _ hp => hb.cell hp
theorem Reads.drew (h : Reads w B size A n xs) : Reads w.drew B size A n xs := h
theorem Reads.drewN (h : Reads w B size A n xs) (k : Nat) : Reads (w.drewN k) B size A n xs := h
theorem Reads.alloc (h : Reads w B size A n xs) (hB : B <= w.heap.size) (o : Obj) : Reads (w.alloc o) B size A n xs := h.keep fun p hp => World.cell?_alloc_lt w o p (by omega)
theorem Reads.cut (h : Reads w B size A n xs) {cap : Nat} (hk : k <= n) (hc : n <= cap) :
  Reads w B size (if cap = k then A else A.map (·.add (k * size))) (n - k) (xs.drop (k * size)) := by
 refine ⟨by rw [length_drop, h.1, Nat.sub_mul], fun hn => ?_⟩
 obtain ⟨ad, rfl, hb, hcell⟩ := h.2 (by omega)
 rw [if_neg (by omega)]
 refine ⟨ad.add (k * size), rfl, by rw [x0K]; exact hb, fun j u hu => ?_⟩
 rw [x1Q]
 exact hcell _ u (by rw [<- hu, List.getElem?_drop])
theorem Reads.take (h : Reads w B 1 A n xs) (hk : k <= n) : Reads w B 1 A k (xs.take k) := by
 refine ⟨by rw [length_take, h.1]; omega, fun hn => ?_⟩
 obtain ⟨ad, rfl, hb, hcell⟩ := h.2 (by omega)
 exact ⟨ad, rfl, hb, fun j u hu => hcell j u (by
  rw [List.getElem?_take] at hu
  split at hu
  ·exact hu
  ·cases hu)⟩
theorem Reads.of_own {c : Nat} (h : w.ownsRow base e size (.slice A n c) n xs) : Reads w w.heap.size size A n xs := by
 refine ⟨h.1, fun hn => ?_⟩
 obtain ⟨g, cap, hv, _, hlt⟩ := h.form hn
 have hA : A = some ⟨g, 0, none⟩ := by injection hv
 subst hA
 exact ⟨_, rfl, hlt, h.cells (g := g) rfl⟩
end
def u8 (b : Nat) : Value := .int .u8 (b : Int)
def u8s (bs : LN) : List Value := bs.map u8
def Bytes (w : World) (B : Nat) (A : OA) (n : Nat) (bs : LN) : Prop := Reads w B 1 A n (u8s bs) /\ ∀ b ∈ bs, b < 256
section
variable {w w' : World} {B B' n : Nat} {A : OA} {bs : LN}
theorem x0C (bs : LN) : (u8s bs).length = bs.length := by simp [u8s]
theorem Bytes.len (h : Bytes w B A n bs) : bs.length = n := by have := h.1.1; rw [x0C] at this; omega
theorem Bytes.at_ (h : Bytes w B A n bs) (hk : k < n) : ∃ (ad : Addr) (b : Nat), A = some ad /\ bs[k]? = some b /\ b < 256 /\ w.cell? (ad.add k) = some (.int .u8 (b : Int)) := by
 obtain ⟨ad, u, e, hb, hx, hc⟩ := h.1.at_ hk
 have hl : k < bs.length := by have := h.len; omega
 refine ⟨ad, bs[k], e, List.getElem?_eq_getElem hl, h.2 _ (List.getElem_mem hl), ?_⟩
 rw [hc, <- hx]
 simp [u8s, u8, hl]
theorem Bytes.more (h : Bytes w B A n bs) (hB : B <= B') : Bytes w B' A n bs := ⟨h.1.more hB, h.2⟩
theorem Bytes.below (h : Bytes w B A n bs) (hb : Below B w w') : Bytes w' B A n bs := ⟨h.1.below hb, h.2⟩
theorem Bytes.drew (h : Bytes w B A n bs) : Bytes w.drew B A n bs := h
theorem Bytes.drewN (h : Bytes w B A n bs) (k : Nat) : Bytes (w.drewN k) B A n bs := h
theorem Bytes.alloc (h : Bytes w B A n bs) (hB : B <= w.heap.size) (o : Obj) : Bytes (w.alloc o) B A n bs := ⟨h.1.alloc hB o, h.2⟩
theorem Bytes.take (h : Bytes w B A n bs) (hk : k <= n) : Bytes w B A k (bs.take k) :=
  ⟨by have := h.1.take hk; rwa [u8s, <- map_take] at this, fun b hb => h.2 b (mem_of_mem_take hb)⟩
end
theorem x19 (g j : Nat) : (⟨g, 0, none⟩ : Addr).add j = ⟨g, j, none⟩ := by
 unfold Addr.add
 split
 ·simp_all
 ·simp
theorem Reads.new (w : World) (cs : List Value) (t : TypeId) (f : Nat × Nat) : Reads (w.alloc (.cells cs.toArray t f)) (w.heap.size + 1) 1 (some ⟨w.heap.size, 0, none⟩) cs.length cs := by
 refine ⟨by simp, fun _ => ⟨_, rfl, Nat.lt_succ_self _, fun j u hu => ?_⟩⟩
 rw [x19, cell_of_row _ _ _ _ _ _ (heap_alloc_new w _)]
 simpa using hu
theorem Reads.newN (w : World) (cs : List Value) (n size : Nat) (t : TypeId) (f : Nat × Nat) (hn : cs.length = n * size) : Reads (w.alloc (.cells cs.toArray t f)) (w.heap.size + 1) size (some ⟨w.heap.size, 0, none⟩) n cs :=
 ⟨hn, fun h0 => ⟨_, rfl, Nat.lt_succ_self _, fun j u hu => by
  rw [x19, cell_of_row _ _ _ _ _ _ (heap_alloc_new w _)]
  simpa using hu⟩⟩
theorem Bytes.new (w : World) (bs : LN) (t : TypeId) (f : Nat × Nat) (hb : ∀ b ∈ bs, b < 256) : Bytes (w.alloc (.cells (u8s bs).toArray t f)) (w.heap.size + 1) (some ⟨w.heap.size, 0, none⟩) bs.length bs :=
  ⟨by have := Reads.new w (u8s bs) t f; rwa [x0C] at this, hb⟩
theorem x1W (bs : LN) : ∀ u ∈ u8s bs, u.oneCell' = true := by
 intro u hu
 obtain ⟨b, _, rfl⟩ := List.mem_map.1 hu
 rfl
theorem xL5 {l : LN} {b : Nat} (h : l[k]? = some b) : l.take (k + 1) = l.take k ++ [b] := by
  rw [take_add_one, h]; rfl
theorem x1C {a : World} (h : Below B a w) (n : Nat) : Below B a (w.drewN n) := ⟨h.os, h.tape, h.output, h.size, h.block⟩
theorem x3A {k : IntKind} {a b : Int} (h : a = b) : Ending.returned (.int k a) = .returned (.int k b) := by rw [h]
def Blk (w : World) (g : Nat) (t : TypeId) (cs : Array Value) : Prop := w.heap[g]? = some (.cells cs t (0, 0))
section
variable {w w' : World} {g : Nat} {t : TypeId} {cs : Array Value}
theorem Blk.lt (h : Blk w g t cs) : g < w.heap.size := by
 rcases Nat.lt_or_ge g w.heap.size with hlt | hge
 ·exact hlt
 ·unfold Blk at h; rw [Array.getElem?_eq_none hge] at h; cases h
theorem Blk.cell (h : Blk w g t cs) (i : Nat) : w.cell? ⟨g, i, none⟩ = cs[i]? := cell_of_row w g i cs t (0, 0) h
theorem Blk.frozen (h : Blk w g t cs) (i : Nat) : w.frozen? ⟨g, i, none⟩ = false := by
 unfold Blk at h
 simp [World.frozen?, h]
theorem Blk.new (w : World) (t : TypeId) (cs : Array Value) : Blk (w.alloc (.cells cs t)) w.heap.size t cs := heap_alloc_new w _
theorem Blk.drew (h : Blk w g t cs) : Blk w.drew g t cs := h
theorem Blk.drewN (h : Blk w g t cs) (n : Nat) : Blk (w.drewN n) g t cs := h
theorem Blk.alloc (h : Blk w g t cs) (o : Obj) : Blk (w.alloc o) g t cs := (kG w o g h.lt).trans h
theorem Blk.set_ (h : Blk w g t cs) (i : Nat) (u : Value) : Blk (w.setCell ⟨g, i, none⟩ u) g t (cs.setIfInBounds i u) := by
 unfold Blk at h ⊢
 simp [World.setCell, Array.getElem?_modify, h]
theorem Blk.far (h : Blk w g t cs) {p : Addr} (hp : g ≠ p.block) (u : Value) : Blk (w.setCell p u) g t cs := (kE w p u g hp).trans h
theorem Blk.below (h : Blk w g t cs) (hb : Below B w w') (hg : g < B) : Blk w' g t cs := (hb.block g hg).trans h
theorem Blk.grown (h : Blk w g t cs) (hb : w.grownBy w' row) (hg : some g ≠ row) : Blk w' g t cs := (hb.block g h.lt hg).trans h
theorem Blk.ne_ {g' : Nat} {t' : TypeId} {cs' : Array Value} (h : Blk w g t cs) (h' : Blk w g' t' cs') (hne : t ≠ t') : g ≠ g' := by
 rintro rfl
 unfold Blk at h h'
 rw [h] at h'
 injection h' with h'
 injection h' with _ ht
 exact hne ht
theorem x12 {size : Nat} {v : Value} (h : w.ownsRow base e size v n xs) (hg : Blk w g t cs) (hne : e ≠ t) : v.ownBlock ≠ some g := by
 rcases h.2 with ⟨rfl, _⟩ | ⟨g', cap, cur, rfl, _, hh, _⟩
 ·simp [Value.ownBlock]
 ·intro he
  have : g' = g := by simpa [Value.ownBlock] using he
  subst this
  exact Blk.ne_ (t := e) hh hg hne rfl
end
section
variable {P : Program} (w : World)
theorem x8B (base : Nat) (t ty e : TypeId) (i : TypeInfo) (size : Nat) (ht : P.underlying t = some (.slice e)) (hi : P.info? e = some i)
 (v : Value) (n : Nat) (xs : List Value) (hown : w.ownsRow base e size v n xs) (c : Nat) : (Builtin.append_ #[t, t] ty #[v, .slice none 0 c]).run P w = .ok v w := by
 rcases hown.2 with ⟨rfl, rfl⟩ | ⟨g, cap, cur, rfl, _, _, hnc, _⟩
 ·simp [Builtin.append_, run_underlying ht, sizeOf, typeInfo, hi, Builtin.lenOf, Builtin.firstCells]
 ·simp [Builtin.append_, run_underlying ht, sizeOf, typeInfo, hi, Builtin.lenOf, Builtin.firstCells, hnc, storeCells]
theorem x5F (base : Nat) (t ty e : TypeId) (i : TypeInfo) (z : Value) (size bytes : Nat) (ht : P.underlying t = some (.slice e)) (hi : P.info? e = some i) (hz : i.zero = some z)
 (hsize : i.size = size) (hby : i.bytes = bytes) (hzs : z.cells.size = size) (hsz : 0 < size)
 (v : Value) (n : Nat) (xs : List Value) (hown : w.ownsRow base e size v n xs)
 (B : Nat) (A : OA) (m c : Nat) (news : List Value) (hr : Reads w B size A m news) (h1 : ∀ u ∈ news, u.oneCell' = true)
 (h63 : n + m <= maxLen) (hbytes : (n + m) * bytes <= 140737488355328) (hbase : base <= w.heap.size) :
    ∃ v' w', (Builtin.append_ #[t, t] ty #[v, .slice A m c]).run P w = .ok v' w' /\ w'.ownsRow base e size v' (n + m) (xs ++ news) /\ w.grownBy w' v.ownBlock ∧
      (v'.ownBlock = v.ownBlock ∨ v'.ownBlock = some w.heap.size) := by
  rcases A with _ | ad
  · have hm : m = 0 := by
      rcases Nat.eq_zero_or_pos m with h0 | h0
      · exact h0
      · obtain ⟨ad, h, _⟩ := hr.2 h0
        cases h
    subst hm
    have hn : news = [] := eq_nil_of_length_eq_zero (by simpa using hr.1)
    subst hn
    exact ⟨v, w, x8B w base t ty e i size ht hi v n xs hown c, by simpa using hown, World.grownBy.refl w _, .inl rfl⟩
  · have hcells : ∀ j u, news[j]? = some u -> w.cell? (ad.add j) = some u := by
      intro j u hu
      rcases Nat.eq_zero_or_pos m with h0 | h0
      · subst h0
        have hn : news = [] := eq_nil_of_length_eq_zero (by simpa using hr.1)
        subst hn
        simp at hu
      · obtain ⟨ad', h, _, hc⟩ := hr.2 h0
        injection h with h
        subst h
        exact hc j u hu
    obtain ⟨v', w', hrun, h2, h3, _, h5⟩ := run_append_own_at (P := P) w base t ty e i z size bytes ht hi hz hsize hby hzs hsz v n xs hown ad m c news hr.1 hcells h1 h63 hbytes hbase
    exact ⟨v', w', hrun, h2, h3, h5⟩
theorem x1A (s x : Operand) (t : TypeId)
 (ho : o.op = .call {callee := .builtin .append, args := #[s, x], argTypes := #[t, t] })
 (base : Nat) (e : TypeId) (i : TypeInfo) (z : Value) (size bytes : Nat) (ht : P.underlying t = some (.slice e)) (hi : P.info? e = some i) (hz : i.zero = some z)
 (hsize : i.size = size) (hby : i.bytes = bytes) (hzs : z.cells.size = size) (hsz : 0 < size)
 (v : Value) (n : Nat) (xs : List Value) (hs : a.eval s = v) (hown : w.ownsRow base e size v n xs)
 (B : Nat) (A : OA) (m c : Nat) (news : List Value) (hx : a.eval x = .slice A m c) (hr : Reads w B size A m news) (h1 : ∀ u ∈ news, u.oneCell' = true)
 (h63 : n + m <= maxLen) (hbytes : (n + m) * bytes <= 140737488355328) (hbase : base <= w.heap.size)
 (h : ∀ v' w', w'.ownsRow base e size v' (n + m) (xs ++ news) -> w.grownBy w' v.ownBlock -> (v'.ownBlock = v.ownBlock ∨ v'.ownBlock = some w.heap.size) -> K (a.put o.dst v') w') : o.wp P a w K Q := by
 obtain ⟨v', w', hrun, h2, h3, h4⟩ := x5F (P := P) w base t o.type e i z size bytes ht hi hz hsize hby hzs hsz v n xs hown B A m c news hr h1 h63 hbytes hbase
 unfold Oper.wp execOp
 simp only [ho, resolve, invoke, builtin, Sem.run_bind, Sem.run_pure, kS, List.map_toArray, map_cons, map_nil, hs, hx, hrun]
 exact h v' w' h2 h3 h4
theorem x0Z {rest : List Oper} (hgd : o.guard = none) (s x : Operand) (t : TypeId)
 (ho : o.op = .call {callee := .builtin .append, args := #[s, x], argTypes := #[t, t] })
 (base : Nat) (e : TypeId) (i : TypeInfo) (z : Value) (size bytes : Nat) (ht : P.underlying t = some (.slice e)) (hi : P.info? e = some i) (hz : i.zero = some z)
 (hsize : i.size = size) (hby : i.bytes = bytes) (hzs : z.cells.size = size) (hsz : 0 < size)
 (v : Value) (n : Nat) (xs : List Value) (hs : a.eval s = v) (hown : w.ownsRow base e size v n xs)
 (B : Nat) (A : OA) (m c : Nat) (news : List Value) (hx : a.eval x = .slice A m c) (hr : Reads w B size A m news) (h1 : ∀ u ∈ news, u.oneCell' = true)
 (h63 : n + m <= maxLen) (hbytes : (n + m) * bytes <= 140737488355328) (hbase : base <= w.heap.size)
 (h : ∀ v' w', w'.ownsRow base e size v' (n + m) (xs ++ news) -> w.grownBy w' v.ownBlock -> (v'.ownBlock = v.ownBlock ∨ v'.ownBlock = some w.heap.size) -> wpList P ops Q rest (a.put o.dst v') w') : wpList P ops Q (o :: rest) a w :=
 wpList_plain hgd fun _ hK => x1A w s x t ho base e i z size bytes ht hi hz hsize hby hzs hsz v n xs hs hown B A m c news hx hr h1 h63 hbytes hbase fun v' w' h2 h3 h4 => hK _ _ (h v' w' h2 h3 h4)
end
end
def le : Nat -> Nat -> LN
 | 0, _ => []
 | k + 1, u => u % 256 :: le k (u / 256)
def un : LN -> Nat
 | [] => 0
 | b :: l => b + 256 * un l
theorem x1H : ∀ k u, (le k u).length = k
 | 0, _ => rfl
 | k + 1, u => by simp [le, x1H k]
theorem xGZ : ∀ k u b, b ∈ le k u -> b < 256
 | 0, _, b, h => by simp [le] at h
 | k + 1, u, b, h => by
  simp only [le, mem_cons] at h
  rcases h with rfl | h
  ·omega
  ·exact xGZ k _ b h
theorem xCM : ∀ k u, u < 256 ^ k -> un (le k u) = u
 | 0, u, h => by simp at h; simp [le, un, h]
 | k + 1, u, h => by
  rw [le, un, xCM k (u / 256) (by rw [Nat.pow_succ] at h; omega)]
  omega
theorem xGI : ∀ k u, le (k + 1) u = le k u ++ [u / 256 ^ k % 256]
 | 0, u => by simp [le]
 | k + 1, u => by
  rw [le, xGI k, le, cons_append, Nat.div_div_eq_div_mul, Nat.pow_succ, Nat.mul_comm 256]
def nat64 (n : Int) : Nat := (n % 18446744073709551616).toNat
theorem xNK (n : Int) : nat64 n < 18446744073709551616 := by unfold nat64; omega
def numB (n : Int) : LN := le 8 (nat64 n)
theorem x04 (n : Int) : (numB n).length = 8 := x1H _ _
theorem x0Y (n : Int) : ∀ b ∈ numB n, b < 256 := fun b h => xGZ _ _ b h
def numOf (l : LN) : Int := wrap64 (un l : Int)
theorem xH8 (n : Int) (h1 : -9223372036854775808 <= n) (h2 : n <= 9223372036854775807) : wrap64 (nat64 n : Int) = n := by
 unfold nat64 wrap64
 omega
theorem x3X (n : Int) (h1 : -9223372036854775808 <= n) (h2 : n <= 9223372036854775807) : numOf (numB n) = n := by
 unfold numOf numB
 rw [xCM _ _ (by have := xNK n; simpa using this)]
 exact xH8 n h1 h2
theorem x8K (l : LN) : -9223372036854775808 <= numOf l /\ numOf l <= 9223372036854775807 := by
 unfold numOf wrap64
 omega
theorem xNE (q : Nat) (h : q < 18446744073709551616) : wrap64 (q : Int) % 18446744073709551616 = (q : Int) := by
 unfold wrap64
 omega
theorem or64 (x y : Nat) (a b : Int) (ha : a % 18446744073709551616 = (x : Int)) (hb : b % 18446744073709551616 = (y : Int)) : bits .or .i64 a b = wrap64 ((x ||| y : Nat) : Int) := by
 have ea : (BitVec.ofInt 64 a).toNat = x := by
  rw [BitVec.toNat_ofInt]
  have : (a % ((2 ^ 64 : Nat) : Int)) = (x : Int) := ha
  rw [this, kP]
 have eb : (BitVec.ofInt 64 b).toNat = y := by
  rw [BitVec.toNat_ofInt]
  have : (b % ((2 ^ 64 : Nat) : Int)) = (y : Int) := hb
  rw [this, kP]
 show IntKind.i64.wrap ((BitVec.ofInt 64 a ||| BitVec.ofInt 64 b).toNat : Int) = _
 rw [BitVec.toNat_or, ea, eb, kI, wrap64]
theorem xQA (x y : Nat) (a b : Int) (hxy : x ||| y = x + y) (hlt : x + y < 18446744073709551616) (ha : a % 18446744073709551616 = (x : Int)) (hb : b % 18446744073709551616 = (y : Int)) :
  bits .or .i64 a b % 18446744073709551616 = ((x + y : Nat) : Int) /\ bits .or .i64 a b = wrap64 ((x + y : Nat) : Int) := by
 have h2 := or64 x y a b ha hb
 rw [hxy] at h2
 exact ⟨by rw [h2]; exact xNE _ hlt, h2⟩
theorem x2U (i x c p : Nat) (a b : Int) (hp : p = 2 ^ i) (hx : x < p) (hc : c < 256) (hi : i <= 56) (ha : a % 18446744073709551616 = (x : Int)) (hb : b % 18446744073709551616 = ((c * p : Nat) : Int)) :
  bits .or .i64 a b % 18446744073709551616 = ((x + c * p : Nat) : Int) /\ bits .or .i64 a b = wrap64 ((x + c * p : Nat) : Int) := by
 have hp56 : p <= 72057594037927936 := by rw [hp, show (72057594037927936 : Nat) = 2 ^ 56 by decide]; exact Nat.pow_le_pow_right (by omega) hi
 have hj : c * p ||| x = c * p + x := nat_join i _ _ (by rw [hp]; simp) (by rw [<- hp]; exact hx)
 have h2 : c * p <= 255 * p := Nat.mul_le_mul_right _ (by omega)
 exact xQA x (c * p) a b (by rw [Nat.or_comm, hj, Nat.add_comm]) (by omega) ha hb
theorem xN8 (l : LN) (q : Nat) (h : un l = q) : wrap64 (q : Int) = numOf l := by rw [numOf, h]
theorem xJQ (c : Nat) (h : c < 256) : (c : Int) % 18446744073709551616 = ((c * 1 : Nat) : Int) := by omega
theorem xK6 (c : Nat) (h : c < 256) : ((c : Int) * 256) % 18446744073709551616 = ((c * 256 : Nat) : Int) := by omega
theorem xJ9 (c : Nat) (h : c < 256) : ((c : Int) * 65536) % 18446744073709551616 = ((c * 65536 : Nat) : Int) := by omega
theorem xJ4 (c : Nat) (h : c < 256) : ((c : Int) * 16777216) % 18446744073709551616 = ((c * 16777216 : Nat) : Int) := by omega
theorem xKL (c : Nat) (h : c < 256) : ((c : Int) * 4294967296) % 18446744073709551616 = ((c * 4294967296 : Nat) : Int) := by omega
theorem xL3 (c : Nat) (h : c < 256) : ((c : Int) * 1099511627776) % 18446744073709551616 = ((c * 1099511627776 : Nat) : Int) := by omega
theorem xJ0 (c : Nat) (h : c < 256) : ((c : Int) * 281474976710656) % 18446744073709551616 = ((c * 281474976710656 : Nat) : Int) := by omega
theorem xJJ (c : Nat) (h : c < 256) : (wrap64 ((c : Int) * 72057594037927936)) % 18446744073709551616 = ((c * 72057594037927936 : Nat) : Int) := by unfold wrap64; omega
theorem xLP (b0 : Nat) (h0 : b0 < 256) : 0 + b0 * 1 < 256 := by omega
theorem xME (b0 b1 : Nat) (h0 : b0 < 256) (h1 : b1 < 256) : 0 + b0 * 1 + b1 * 256 < 65536 := by omega
theorem xMT (b0 b1 b2 : Nat) (h0 : b0 < 256) (h1 : b1 < 256) (h2 : b2 < 256) : 0 + b0 * 1 + b1 * 256 + b2 * 65536 < 16777216 := by omega
theorem xNF (b0 b1 b2 b3 : Nat) (h0 : b0 < 256) (h1 : b1 < 256) (h2 : b2 < 256) (h3 : b3 < 256) : 0 + b0 * 1 + b1 * 256 + b2 * 65536 + b3 * 16777216 < 4294967296 := by omega
theorem xNN (b0 b1 b2 b3 b4 : Nat) (h0 : b0 < 256) (h1 : b1 < 256) (h2 : b2 < 256) (h3 : b3 < 256) (h4 : b4 < 256) : 0 + b0 * 1 + b1 * 256 + b2 * 65536 + b3 * 16777216 + b4 * 4294967296 < 1099511627776 := by omega
theorem xMP (b0 b1 b2 b3 b4 b5 : Nat) (h0 : b0 < 256) (h1 : b1 < 256) (h2 : b2 < 256) (h3 : b3 < 256) (h4 : b4 < 256) (h5 : b5 < 256) : 0 + b0 * 1 + b1 * 256 + b2 * 65536 + b3 * 16777216 + b4 * 4294967296 + b5 * 1099511627776 < 281474976710656 := by omega
theorem xLO (b0 b1 b2 b3 b4 b5 b6 : Nat) (h0 : b0 < 256) (h1 : b1 < 256) (h2 : b2 < 256) (h3 : b3 < 256) (h4 : b4 < 256) (h5 : b5 < 256) (h6 : b6 < 256) : 0 + b0 * 1 + b1 * 256 + b2 * 65536 + b3 * 16777216 + b4 * 4294967296 + b5 * 1099511627776 + b6 * 281474976710656 < 72057594037927936 := by omega
theorem xMW (b0 b1 b2 b3 b4 b5 b6 b7 : Nat) : un [b0, b1, b2, b3, b4, b5, b6, b7] = 0 + b0 * 1 + b1 * 256 + b2 * 65536 + b3 * 16777216 + b4 * 4294967296 + b5 * 1099511627776 + b6 * 281474976710656 + b7 * 72057594037927936 := by simp only [un]; omega
theorem xN7 (b0 b1 b2 b3 b4 b5 b6 b7 : Nat) (h0 : b0 < 256) (h1 : b1 < 256) (h2 : b2 < 256) (h3 : b3 < 256) (h4 : b4 < 256) (h5 : b5 < 256) (h6 : b6 < 256) (h7 : b7 < 256) :
  bits .or .i64 (bits .or .i64 (bits .or .i64 (bits .or .i64 (bits .or .i64 (bits .or .i64 (bits .or .i64 (bits .or .i64 0 (b0 : Int)) ((b1 : Int) * 256)) ((b2 : Int) * 65536)) ((b3 : Int) * 16777216)) ((b4 : Int) * 4294967296)) ((b5 : Int) * 1099511627776)) ((b6 : Int) * 281474976710656)) (wrap64 ((b7 : Int) * 72057594037927936)) = numOf [b0, b1, b2, b3, b4, b5, b6, b7] := by
 have z0 : (0 : Int) % 18446744073709551616 = ((0 : Nat) : Int) := by omega
 have s0 := x2U 0 _ b0 1 _ _ (by decide) (by decide) h0 (by decide) z0 (xJQ b0 h0)
 have s1 := x2U 8 _ b1 256 _ _ (by decide) (xLP b0 h0) h1 (by decide) s0.1 (xK6 b1 h1)
 have s2 := x2U 16 _ b2 65536 _ _ (by decide) (xME b0 b1 h0 h1) h2 (by decide) s1.1 (xJ9 b2 h2)
 have s3 := x2U 24 _ b3 16777216 _ _ (by decide) (xMT b0 b1 b2 h0 h1 h2) h3 (by decide) s2.1 (xJ4 b3 h3)
 have s4 := x2U 32 _ b4 4294967296 _ _ (by decide) (xNF b0 b1 b2 b3 h0 h1 h2 h3) h4 (by decide) s3.1 (xKL b4 h4)
 have s5 := x2U 40 _ b5 1099511627776 _ _ (by decide) (xNN b0 b1 b2 b3 b4 h0 h1 h2 h3 h4) h5 (by decide) s4.1 (xL3 b5 h5)
 have s6 := x2U 48 _ b6 281474976710656 _ _ (by decide) (xMP b0 b1 b2 b3 b4 b5 h0 h1 h2 h3 h4 h5) h6 (by decide) s5.1 (xJ0 b6 h6)
 have s7 := x2U 56 _ b7 72057594037927936 _ _ (by decide) (xLO b0 b1 b2 b3 b4 b5 b6 h0 h1 h2 h3 h4 h5 h6) h7 (by decide) s6.1 (xJJ b7 h7)
 exact s7.2.trans (xN8 _ _ (xMW b0 b1 b2 b3 b4 b5 b6 b7))
structure RD where
 bs : LN
 bad : Bool
def RD.spoilt : RD := ⟨[], true⟩
def RD.fits (s : RD) (n : Int) : Bool := !s.bad && decide (0 <= n) && decide (n <= s.bs.length)
def RD.take (s : RD) (n : Int) : RD := if s.fits n then ⟨s.bs.drop n.toNat, false⟩ else .spoilt
def RD.got (s : RD) (n : Int) : LN := if s.fits n then s.bs.take n.toNat else []
def RD.Good (s : RD) : Prop := (s.bad = true -> s.bs = []) /\ ∀ b ∈ s.bs, b < 256
theorem RD.take_good {s : RD} (h : s.Good) (n : Int) : (s.take n).Good := by
 unfold RD.take
 split
 ·exact ⟨fun e => (by cases e), fun b hb => h.2 b (mem_of_mem_drop hb)⟩
 ·exact ⟨fun _ => rfl, fun b hb => by cases hb⟩
theorem RD.spoilt_good : RD.spoilt.Good := ⟨fun _ => rfl, fun b hb => by cases hb⟩
theorem RD.got_lt {s : RD} (h : s.Good) (n : Int) : ∀ b ∈ s.got n, b < 256 := by
 unfold RD.got
 split
 ·exact fun b hb => h.2 b (mem_of_mem_take hb)
 ·exact fun b hb => by cases hb
def RD.byte (s : RD) : Nat := (s.got 1).headD 0
def RD.num (s : RD) : Int := numOf (s.got 8)
def RD.flagTo (s : RD) : RD := if 1 < s.byte then .spoilt else s.take 1
def RD.flag (s : RD) : Bool := s.byte == 1
def RD.bytesTo (s : RD) : RD := (s.take 8).take s.num
def RD.bytes (s : RD) : LN := (s.take 8).got s.num
theorem RD.byte_lt {s : RD} (h : s.Good) : s.byte < 256 := by
 unfold RD.byte
 have := RD.got_lt h 1
 cases hg : s.got 1 with
 | nil => simp
 | cons b l => rw [hg] at this; exact this b (by simp)
section
open Go.RowKit Go.ChangeMaps
structure Only (F : LN) (w w' : World) : Prop where
 os : w'.os = w.os
 tape : w'.tape = w.tape
 output : w'.output = w.output
 size : w.heap.size <= w'.heap.size
 block : ∀ k, k < w.heap.size -> k ∉ F -> w'.heap[k]? = w.heap[k]?
def Fresh (w : World) (F F' : LN) : Prop := ∀ k, k ∈ F' -> k ∈ F ∨ w.heap.size <= k
def Under (w : World) (F : LN) : Prop := ∀ k, k ∈ F -> k < w.heap.size
def Over (B : Nat) (F : LN) : Prop := ∀ k, k ∈ F -> B <= k
section
variable {F F' F'' G : LN} {w w' w'' : World}
theorem Only.refl (F : LN) (w : World) : Only F w w := ⟨rfl, rfl, rfl, kR _, fun _ _ _ => rfl⟩
theorem Only.trans (h : Only F w w') (k : Only F' w' w'') (hf : Fresh w F F') : Only F w w'' :=
 ⟨k.os.trans h.os, k.tape.trans h.tape, k.output.trans h.output, kT h.size k.size, fun i hi hn =>
  (k.block i (kL hi h.size) (fun hm => by
   rcases hf i hm with h1 | h1
   ·exact hn h1
   ·omega)).trans (h.block i hi hn)⟩
theorem Only.mono (h : Only F w w') (hs : ∀ k, k ∈ F -> k ∈ G) : Only G w w' := ⟨h.os, h.tape, h.output, h.size, fun i hi hn => h.block i hi (fun hm => hn (hs i hm))⟩
theorem Only.alloc (h : Only F w w') (o : Obj) : Only F w (w'.alloc o) :=
  ⟨h.os, h.tape, h.output, kT h.size (by simp), fun i hi hn => (kG w' o i (kL hi h.size)).trans (h.block i hi hn)⟩
theorem Only.drew (h : Only F w w') : Only F w w'.drew := ⟨h.os, h.tape, h.output, h.size, h.block⟩
theorem Only.setCell (h : Only F w w') {p : Addr} (hp : p.block ∈ F ∨ w.heap.size <= p.block) (u : Value) : Only F w (w'.setCell p u) :=
 ⟨h.os, h.tape, h.output, by simpa [World.setCell] using h.size, fun i hi hn => (kE w' p u i (by
  rintro rfl
  rcases hp with hp | hp
  ·exact hn hp
  ·omega)).trans (h.block i hi hn)⟩
theorem Only.grown (h : Only F w w') (hg : w'.grownBy w'' row) (hr : ∀ g, row = some g -> g ∈ F ∨ w.heap.size <= g) : Only F w w'' :=
 ⟨hg.os.trans h.os, hg.tape.trans h.tape, hg.output.trans h.output, kT h.size hg.size, fun i hi hn => (hg.block i (kL hi h.size) (fun e => by
  rcases hr i e.symm with h1 | h1
  ·exact hn h1
  ·omega)).trans (h.block i hi hn)⟩
theorem Only.of_below (h : Below w.heap.size w w') (F : LN) : Only F w w' := ⟨h.os, h.tape, h.output, h.size, fun i hi _ => h.block i hi⟩
theorem Only.below (h : Only F w w') (hB : Over B F) (hs : B <= w.heap.size) : Below B w w' :=
  ⟨h.os, h.tape, h.output, h.size, fun i hi => h.block i (by omega) (fun hm => by have := hB i hm; omega)⟩
theorem Only.cell (h : Only F w w') {p : Addr} (hp : p.block < w.heap.size) (hn : p.block ∉ F) : w'.cell? p = w.cell? p := World.cell?_of_block (w := w) (h.block p.block hp hn)
theorem Fresh.refl (w : World) (F : LN) : Fresh w F F := fun _ h => .inl h
theorem Fresh.trans (h : Fresh w F F') (k : Fresh w' F' F'') (hs : w.heap.size <= w'.heap.size) : Fresh w F F'' := fun i hi => by
 rcases k i hi with h1 | h1
 ·exact h i h1
 ·exact .inr (by omega)
theorem x0L (h : Below B w.drew w') : Below B w w' := ⟨h.os, h.tape, h.output, h.size, h.block⟩
theorem x1V (h : Below w.heap.size w w') (hu : Under w G) : ∀ k, k ∈ G -> w'.heap[k]? = w.heap[k]? := fun k hk => h.block k (hu k hk)
theorem Blk.of {cs : Array Value} (h : Blk w g t cs) (e : w'.heap[g]? = w.heap[g]?) : Blk w' g t cs := e.trans h
def rowOf (v : Value) : LN := v.ownBlock.toList
theorem x00 {v : Value} : k ∈ rowOf v ↔ v.ownBlock = some k := by simp [rowOf]
theorem x06 {size : Nat} {v : Value} (h : w.ownsRow base e size v n xs) (hk : ∀ k, k ∈ rowOf v -> w'.heap[k]? = w.heap[k]?) : w'.ownsRow base e size v n xs := by
 refine ⟨h.1, ?_⟩
 rcases h.2 with h2 | ⟨g, cap, cur, hv, hg, hh, r⟩
 ·exact .inl h2
 ·exact .inr ⟨g, cap, cur, hv, hg, by rw [hk g (by subst hv; simp [rowOf, Value.ownBlock])]; exact hh, r⟩
theorem x0B {base' : Nat} {size : Nat} {v : Value} (h : w.ownsRow base e size v n xs) (hb : base' <= base) : w.ownsRow base' e size v n xs := by
 refine ⟨h.1, ?_⟩
 rcases h.2 with h | ⟨g, cap, cur, e, hg, r⟩
 ·exact .inl h
 ·exact .inr ⟨g, cap, cur, e, kT hb hg, r⟩
theorem x02 {size : Nat} {v : Value} (h : w.ownsRow base e size v n xs) : Under w (rowOf v) := fun k hk => (kD h k (x00.1 hk)).2
theorem x0G {size : Nat} {v : Value} (h : w.ownsRow base e size v n xs) : Over base (rowOf v) := fun k hk => (kD h k (x00.1 hk)).1
end
theorem x0F (g : Nat) : ∀ (vs : List Value) (o : Nat) (w : World), w.grownBy (w.setCells g o vs) (some g) /\ (w.setCells g o vs).heap.size = w.heap.size
 | [], _, w => ⟨World.grownBy.refl w _, rfl⟩
 | v :: vs, o, w => by
  obtain ⟨h1, h2⟩ := x0F g vs (o + 1) (w.setCell ⟨g, o, none⟩ v)
  rw [World.setCells]
  have h0 : w.grownBy (w.setCell ⟨g, o, none⟩ v) (some g) := ⟨rfl, rfl, rfl, by simp [World.setCell], fun k _ hn => kE w ⟨g, o, none⟩ v k (fun e => hn (by rw [e]))⟩
  exact ⟨h0.trans h1, by rw [h2]; simp [World.setCell]⟩
theorem Blk.setCells_ : ∀ (vs : List Value) (o : Nat) {w : World} {cs : Array Value}, Blk w g t cs -> ∃ cs', Blk (w.setCells g o vs) g t cs' /\ cs'.size = cs.size
 | [], _, _, cs, h => ⟨cs, h, rfl⟩
 | v :: vs, o, w, cs, h => by
  obtain ⟨cs', h1, h2⟩ := Blk.setCells_ vs (o + 1) (h.set_ o v)
  exact ⟨cs', h1, by simpa using h2⟩
theorem Blk.over {cs : Array Value} (h : Blk w g t cs) (vs : List Value) (hl : vs.length = cs.size) : Blk (w.setCells g 0 vs) g t vs.toArray := by
 obtain ⟨cs', h1, h2⟩ := Blk.setCells_ vs 0 h
 have : cs' = vs.toArray := by
  apply Array.ext_getElem?
  intro k
  rw [<- h1.cell k]
  by_cases hk : k < vs.length
  ·have := World.cell?_setCells_in g vs 0 w (fun j hj => by rw [Nat.zero_add, h.cell]; simp; omega) k hk
   rw [Nat.zero_add] at this
   rw [this]
   simp [hk]
  ·rw [h1.cell, Array.getElem?_eq_none (by omega)]
   simp
   omega
 rw [<- this]
 exact h1
theorem Blk.there {cs : Array Value} (h : Blk w g t cs) {o : Nat} (hn : o + n <= cs.size) : w.there g o n := fun j hj => ⟨by rw [h.cell]; simp; omega, h.frozen _⟩
theorem Blk.range {cs : List Value} (h : Blk w g t cs.toArray) : w.rangeAt g 0 cs := fun j u hj => by rw [Nat.zero_add, h.cell]; simpa using hj
theorem x1K {α : Type} (f : α -> List Value) (size : Nat) (hf : ∀ x, (f x).length = size) : ∀ (l : List α) (k j : Nat) (x : α), l[k]? = some x -> j < size -> (l.flatMap f)[k * size + j]? = (f x)[j]?
 | [], _, _, _, h, _ => by simp at h
 | y :: l, 0, j, x, h, hj => by
  simp at h
  subst h
  rw [flatMap_cons, Nat.zero_mul, Nat.zero_add, List.getElem?_append_left (by rw [hf]; exact hj)]
 | y :: l, k + 1, j, x, h, hj => by
  rw [flatMap_cons, List.getElem?_append_right (by rw [hf, Nat.add_mul]; omega), hf, show (k + 1) * size + j - size = k * size + j by rw [Nat.add_mul]; omega]
  exact x1K f size hf l k j x (by simpa using h) hj
theorem xL9 {α : Type} {f : α -> List Value} {size : Nat} (hf : ∀ x, (f x).length = size) {cap : Nat} {l : List α} (h : w.ownsRow base e size (.slice A n cap) n (l.flatMap f)) (hl : l.length = n) (hk : k < n) :
  ∃ gw x, A = some ⟨gw, 0, none⟩ /\ n <= cap /\ l[k]? = some x /\ w.rangeAt gw (k * size) (f x) /\ base <= gw /\ gw < w.heap.size := by
 rcases h.2 with ⟨hv, _⟩ | ⟨gw, cap', cur, hv, hbg, hg, hnc, _⟩
 ·injection hv; omega
 ·injection hv with h1 h2 h3
  subst h1 h3
  have hx : l[k]? = some (l[k]'(by omega)) := List.getElem?_eq_getElem (by omega)
  refine ⟨gw, _, rfl, hnc, hx, fun j u hj => ?_, hbg, (Array.getElem?_eq_some_iff.1 hg).1⟩
  have hjs : j < size := by
   rw [<- hf (l[k]'(by omega))]
   exact (List.getElem?_eq_some_iff.1 hj).1
  have hlt : k * size + j < n * size := by
   have : (k + 1) * size <= n * size := Nat.mul_le_mul_right _ hk
   rw [Nat.add_mul] at this
   omega
  rw [World.ownsRow.cellAt h _ hlt, x1K f size hf l k j _ hx hjs]
  exact hj
def keyed (es : List MapEntry) : Prop := ∀ e ∈ es, ∃ z, e.key = .int .i64 z
def keyIs (k : Int) : Value -> Bool
 | .int .i64 z => k == z
 | _ => false
def find (k : Int) : List MapEntry -> Option Value
 | [] => none
 | e :: es => if keyIs k e.key then some e.val else find k es
def MapAt (w : World) (g : Nat) (f : Int -> Option Value) : Prop := ∃ es clock, w.heap[g]? = some (.map es clock) /\ keyed es.toList /\ ∀ k, find k es.toList = f k
section
variable {P : Program} {w w' : World} {g : Nat} {f : Int -> Option Value}
theorem MapAt.of (h : MapAt w g f) (e : w'.heap[g]? = w.heap[g]?) : MapAt w' g f := by
 obtain ⟨es, c, h1, h2⟩ := h
 exact ⟨es, c, e.trans h1, h2⟩
theorem MapAt.lt (h : MapAt w g f) : g < w.heap.size := by
 obtain ⟨es, c, h1, _⟩ := h
 exact (Array.getElem?_eq_some_iff.1 h1).1
theorem MapAt.new (w : World) : MapAt (w.alloc (.map #[] 0)) w.heap.size (fun _ => none) :=
  ⟨#[], 0, heap_alloc_new w _, by simp [keyed], by simp [find]⟩
theorem MapAt.ne_blk {cs : Array Value} {g' : Nat} (h : MapAt w g f) (hb : Blk w g' t cs) : g ≠ g' := by
 rintro rfl
 obtain ⟨es, c, h1, _⟩ := h
 unfold Blk at hb
 rw [hb] at h1
 cases h1
theorem MapAt.ne_row {size : Nat} {v : Value} (h : MapAt w g f) (hr : w.ownsRow base e size v n xs) : v.ownBlock ≠ some g := by
 intro he
 obtain ⟨es, c, h1, _⟩ := h
 rcases hr.2 with ⟨rfl, _⟩ | ⟨g', cap, cur, rfl, _, hh, _⟩
 ·simp [Value.ownBlock] at he
 ·have : g' = g := by simpa [Value.ownBlock] using he
  subst this
  rw [hh] at h1
  cases h1
theorem x5Y (k : Int) : ∀ (es : List MapEntry) (i : Nat), keyed es →
  ∃ r, Instr.findNow (.int .i64) (.int .i64 k) es i = some r /\ (r.map (·.2)) = find k es ∧
   (r = none -> ∀ e ∈ es, keyIs k e.key = false) ∧
   ∀ j v, r = some (j, v) -> i <= j /\ ∃ e, es[j - i]? = some e /\ e.key = .int .i64 k /\ e.val = v /\ ∀ j', j' < j - i -> ∀ e', es[j']? = some e' -> keyIs k e'.key = false
 | [], i, _ => ⟨none, rfl, rfl, fun _ _ h => (by cases h), fun _ _ h => by cases h⟩
 | e :: es, i, h => by
  obtain ⟨z, hz⟩ := h e (by simp)
  by_cases hk : k = z
  ·subst hk
   refine ⟨some (i, e.val), by simp [Instr.findNow, Instr.sameNow, hz], by simp [find, keyIs, hz], fun h => (by cases h), ?_⟩
   intro j v hjv
   cases hjv
   exact ⟨kR _, e, by simp, hz, rfl, fun j' hj' => by omega⟩
  ·obtain ⟨r, h1, h2, h4, h3⟩ := x5Y k es (i + 1) (fun e' he' => h e' (by simp [he']))
   have hb : (k == z) = false := by simpa using hk
   refine ⟨r, ?_, ?_, ?_, ?_⟩
   ·simp only [Instr.findNow, Instr.sameNow, hz, if_true, hb, h1]
   ·rw [h2]; simp [find, keyIs, hz, hb]
   ·intro hr e' he'
    rcases kQ he' with rfl | he'
    ·simp [keyIs, hz, hb]
    ·exact h4 hr e' he'
   ·intro j v hjv
    obtain ⟨hle, e', he', hk', hv', hno⟩ := h3 j v hjv
    refine ⟨by omega, e', ?_, hk', hv', ?_⟩
    ·rw [show j - i = (j - (i + 1)) + 1 by omega]; simpa using he'
    ·intro j' hj' e'' he''
     cases j' with
     | zero => simp at he''; subst he''; simp [keyIs, hz, hb]
     | succ j' => exact hno j' (by omega) e'' (by simpa using he'')
theorem xBX (w : World) (hk : P.underlying kt = some (.int .i64)) (k : Int) (b : Bool) : (Instr.checkKey b 10000 kt (.int .i64 k)).run P w = .ok () w := by
 unfold Instr.checkKey
 simp [run_underlying hk]
theorem xIZ (w : World) (k : Int) : (Instr.keyThatStays (.int .i64 k) (.int .i64 k)).run P w = .ok (.int .i64 k) w := by
 unfold Instr.keyThatStays Instr.sameBits
 simp
theorem x5D {et : TypeId} {z : Value} (ht : P.underlying t = some (.map kt et)) (hk : P.underlying kt = some (.int .i64)) (hz : ∀ w, (zeroValue et).run P w = .ok z w) (h : MapAt w g f) (k : Int) :
  (Instr.lookup t (.map (some g)) (.int .i64 k) false).run P w = .ok ((f k).getD z) w := by
 obtain ⟨es, c, h1, h2, h3⟩ := h
 obtain ⟨r, hr, hf, _⟩ := x5Y k es.toList 0 h2
 have hck := fun b => xBX (P := P) w hk k b
 rw [h3 k] at hf
 cases hr' : r with
 | none =>
  subst hr'
  have : f k = none := by simpa using hf.symm
  simp [Instr.lookup, run_underlying ht, MapKept.run_getObj_map h1, hck, Instr.findKey, run_underlying hk, hr, this, Result.andThen]
  exact hz w
 | some p =>
  subst hr'
  have : f k = some p.2 := by simpa using hf.symm
  simp [Instr.lookup, run_underlying ht, MapKept.run_getObj_map h1, hck, Instr.findKey, run_underlying hk, hr, this, Result.andThen]
theorem xB7 (k : Int) (v : Value) (c : Nat) (k' : Int) : ∀ es : List MapEntry, (∀ e ∈ es, keyIs k e.key = false) →
  find k' (es ++ [{ key := .int .i64 k, val := v, born := c }]) = if k' = k then some v else find k' es
 | [], _ => by by_cases h : k' = k <;> simp [find, keyIs, h]
 | e :: es, h => by
  have ih := xB7 k v c k' es (fun e' he' => h e' (by simp [he']))
  by_cases hk : k' = k
  ·subst hk
   simp only [cons_append, find, h e (by simp), Bool.false_eq_true, if_false, ih, if_true]
  ·simp only [cons_append, find, ih, hk, if_false]
theorem x8P (k : Int) (v : Value) (k' : Int) : ∀ (es : List MapEntry) (i : Nat), (∃ e, es[i]? = some e /\ e.key = .int .i64 k) -> (∀ j', j' < i -> ∀ e', es[j']? = some e' -> keyIs k e'.key = false) →
  find k' (es.modify i fun e => { e with key := .int .i64 k, val := v }) = if k' = k then some v else find k' es
 | [], _, h, _ => by obtain ⟨e, h, _⟩ := h; simp at h
 | e :: es, 0, h, _ => by
  obtain ⟨e', h, hk⟩ := h
  simp at h
  subst h
  by_cases hkk : k' = k
  ·simp [find, keyIs, hkk]
  ·have hb : (k' == k) = false := by simpa using hkk
   simp [find, keyIs, hkk, hk, hb]
 | e :: es, i + 1, h, hno => by
  have ih := x8P k v k' es i (by simpa using h) (fun j' hj e' he' => hno (j' + 1) (by omega) e' (by simpa using he'))
  have h0 := hno 0 (by omega) e (by simp)
  by_cases hk : k' = k
  ·subst hk
   simp only [List.modify_succ_cons, find, h0, Bool.false_eq_true, if_false, ih, if_true]
  ·simp only [List.modify_succ_cons, find, ih, hk, if_false]
theorem xD0 {es : List MapEntry} (h : keyed es) (i : Nat) (k : Int) (v : Value) : keyed (es.modify i fun e => { e with key := .int .i64 k, val := v }) := by
 intro e he
 obtain ⟨j, hj, rfl⟩ := mem_iff_getElem.1 he
 simp only [List.getElem_modify]
 split
 ·exact ⟨k, rfl⟩
 ·exact h _ (List.getElem_mem _)
theorem x8E {et : TypeId} (ht : P.underlying t = some (.map kt et)) (hk : P.underlying kt = some (.int .i64)) (h : MapAt w g f) (k : Int) (v : Value) :
  ∃ w', (Instr.mapUpdate t (.map (some g)) (.int .i64 k) v).run P w = .ok () w' /\ MapAt w' g (fun k' => if k' = k then some v else f k') /\ w.grownBy w' (some g) /\ w'.heap.size = w.heap.size := by
 obtain ⟨es, c, h1, h2, h3⟩ := h
 obtain ⟨r, hr, hf, hn, hs⟩ := x5Y k es.toList 0 h2
 have hck := fun b => xBX (P := P) w hk k b
 cases hr' : r with
 | none =>
  subst hr'
  refine ⟨setBlock w g (.map (es.push { key := .int .i64 k, val := v, born := c }) (c + 1)), by
   simp [Instr.mapUpdate, run_underlying ht, MapKept.run_getObj_map h1, hck, Instr.findKey, run_underlying hk, hr, MapKept.run_setObj_map _ h1, Result.andThen, setBlock], ?_, ?_, by simp [setBlock]⟩
  ·refine ⟨_, _, heap_setBlock_same h1 _, ?_, ?_⟩
   ·intro e he
    simp only [Array.toList_push, mem_append, mem_singleton] at he
    rcases he with he | rfl
    ·exact h2 e he
    ·exact ⟨k, rfl⟩
   ·intro k'
    rw [Array.toList_push, xB7 k v c k' es.toList (hn rfl), h3]
  ·exact ⟨rfl, rfl, rfl, by simp [setBlock], fun i _ hi => heap_setBlock_other h1 _ (fun e => hi (by rw [e]))⟩
 | some p =>
  subst hr'
  obtain ⟨i, u⟩ := p
  obtain ⟨_, e, he, hek, hev, hno⟩ := hs i u rfl
  simp only [Nat.sub_zero, Array.getElem?_toList] at he hno
  refine ⟨setBlock w g (.map (es.modify i fun e => { e with key := .int .i64 k, val := v }) c), by
   simp [Instr.mapUpdate, run_underlying ht, MapKept.run_getObj_map h1, hck, Instr.findKey, run_underlying hk, hr, he, hek, xIZ, MapKept.run_setObj_map _ h1, Result.andThen, setBlock], ?_, ?_, by simp [setBlock]⟩
  ·refine ⟨_, _, heap_setBlock_same h1 _, ?_, ?_⟩
   ·rw [Array.toList_modify]; exact xD0 h2 _ _ _
   ·intro k'
    rw [Array.toList_modify, x8P k v k' es.toList i ⟨e, by simpa using he, hek⟩ (fun j' hj e' he' => hno j' hj e' (by simpa using he')), h3]
  ·exact ⟨rfl, rfl, rfl, by simp [setBlock], fun i _ hi => heap_setBlock_other h1 _ (fun e => hi (by rw [e]))⟩
theorem x89 {rest : List Oper} (hg : o.guard = none) (t : TypeId) (m x : Operand) (hop : o.op = Op.lookup t m x false)
 (k : Int) (v : Value) (hm : a.eval m = .map (some g)) (hx : a.eval x = .int .i64 k) (hr : (Instr.lookup t (.map (some g)) (.int .i64 k) false).run P w = .ok v w)
  (h : wpList P ops Q rest (a.put o.dst v) w) : wpList P ops Q (o :: rest) a w := by
 refine wpList_plain hg fun K' hK' => ?_
 unfold Oper.wp
 simp [execOp, hop, hm, hx, hr, Result.andThen]
 exact hK' _ _ h
end
end
section
structure Sec where
 l : LN
 len : l.length = 128
 lt : ∀ b ∈ l, b < 256
theorem Sec.ext_ {s t : Sec} (h : s.l = t.l) : s = t := by cases s; cases t; cases h; rfl
noncomputable instance : DecidableEq Sec := fun _ _ => Classical.propDecidable _
def Sec.cs (s : Sec) : List Value := u8s s.l
def Sec.v (s : Sec) : Value := .agg s.cs.toArray
def Sec.zero : Sec := ⟨List.replicate 128 0, by simp, by intro b hb; obtain ⟨_, rfl⟩ := mem_replicate.1 hb; omega⟩
def Sec.full (b : Nat) (h : b < 256) : Sec := ⟨List.replicate 128 b, by simp, by intro c hc; obtain ⟨_, rfl⟩ := mem_replicate.1 hc; exact h⟩
theorem Sec.cs_len (s : Sec) : s.cs.length = 128 := by simp [Sec.cs, u8s, s.len]
theorem Sec.one (s : Sec) : ∀ u ∈ s.cs, u.oneCell' = true := x1W _
structure DM where
 n : Nat
 sure : Int -> Sec
 wait : List (Int × Sec)
 steps : Nat
 armed : Bool
 left : Nat
 gone : Bool
def DM.new (n : Nat) : DM := ⟨n, fun _ => .zero, [], 0, false, 0, false⟩
def DM.off (d : DM) : Bool := d.gone || (d.armed && decide (d.left = 0))
def DM.step (d : DM) : DM := if d.off then { d with gone := true } else { d with steps := d.steps + 1, left := if d.armed then d.left - 1 else d.left }
def DM.stepErr (d : DM) : Nat := if d.off then 3 else 0
theorem DM.step_wait (d : DM) : d.step.wait = d.wait := by unfold DM.step; split <;> rfl
def DM.has (d : DM) (i : Int) : Bool := decide (0 <= i) && decide (i < d.n)
def DM.write (d : DM) (i : Int) (s : Sec) : DM := if d.has i then (if d.off then d.step else { d.step with wait := d.wait ++ [(i, s)] }) else d
def DM.writeErr (d : DM) (i : Int) : Nat := if d.has i then (if d.off then 3 else 0) else 1
def settled (kept : Nat -> Bool) : Nat -> List (Int × Sec) -> (Int -> Sec) -> (Int -> Sec)
 | _, [], f => f
 | n, x :: l, f => settled kept (n + 1) l (if kept n then (fun k => if k = x.1 then x.2 else f k) else f)
def upd (f : Int -> Sec) (x : Int × Sec) : Int -> Sec := fun k => if k = x.1 then x.2 else f k
theorem x44 (kept : Nat -> Bool) (x : Int × Sec) : ∀ (l : List (Int × Sec)) (n : Nat) (f : Int -> Sec), settled kept n (l ++ [x]) f = (if kept (n + l.length) then upd (settled kept n l f) x else settled kept n l f)
 | [], n, f => by simp only [nil_append, settled, length_nil, Nat.add_zero]; rfl
 | y :: l, n, f => by
  simp only [cons_append, settled, length_cons]
  rw [x44 kept x l (n + 1), show n + 1 + l.length = n + (l.length + 1) by omega]
def DM.settle (d : DM) (kept : Nat -> Bool) : DM := { d with sure := settled kept 0 d.wait d.sure, wait := [] }
def DM.flush (d : DM) : DM := if d.off then d.step else d.step.settle (fun _ => true)
def DM.restore (d : DM) : DM := { d with armed := false, left := 0, gone := false }
def keptOf (keep : List Bool) (n : Nat) : Bool := keep[n]?.getD false
def DM.crash (d : DM) (keep : List Bool) : DM := (d.settle (keptOf keep)).restore
def lastOf (i : Int) (l : List (Int × Sec)) : Option Sec := (l.reverse.find? fun x => x.1 == i).map (·.2)
def DM.read (d : DM) (i : Int) : Sec := if d.gone || !d.has i then .zero else (lastOf i d.wait).getD (d.sure i)
def DM.readErr (d : DM) (i : Int) : Nat := if d.gone then 3 else if d.has i then 0 else 1
def errV : Nat -> Value
 | 0 => .nilIface
 | k => .iface 46 (.int .i64 k)
def wrc (x : Int × Sec) : List Value := x.2.cs ++ [.int .i64 x.1]
def dcells (d : DM) (gm : Nat) (v : Value) : Array Value := #[.int .i64 d.steps, .bool d.armed, .int .i64 d.left, .bool d.gone, .int .i64 d.n, .map (some gm), v]
structure Lies (w : World) (base g gm : Nat) (v : Value) (d : DM) : Prop where
 blk : Blk w g 106 (dcells d gm v)
 map : ∃ f, MapAt w gm f /\ ∀ k, (f k).getD Sec.zero.v = (d.sure k).v
 row : w.ownsRow base 208 129 v d.wait.length (d.wait.flatMap wrc)
 bg : base <= g
 bm : base <= gm
def DiskAt (w : World) (base : Nat) (F : LN) (g : Nat) (d : DM) : Prop := ∃ gm v, F = g :: gm :: rowOf v /\ Lies w base g gm v d
def DTo (w : World) (base : Nat) (F : LN) (g : Nat) (d' : DM) (w' : World) : Prop := ∃ F', DiskAt w' base F' g d' /\ Only F w w' /\ Fresh w F F'
section
variable {w w' : World} {base g : Nat} {F G : LN} {d : DM}
theorem Lies.to {v : Value} (h : Lies w' base g gm v d) (ho : Only [g] w w') : DTo w base (g :: gm :: rowOf v) g d w' :=
  ⟨_, ⟨gm, v, rfl, h⟩, ho.mono (fun k hk => by simp at hk; simp [hk]), Fresh.refl _ _⟩
theorem DiskAt.of (h : DiskAt w base F g d) (hk : ∀ k, k ∈ F -> w'.heap[k]? = w.heap[k]?) : DiskAt w' base F g d := by
 obtain ⟨gm, v, rfl, h⟩ := h
 obtain ⟨f, h1, h2⟩ := h.map
 exact ⟨gm, v, rfl, ⟨h.blk.of (hk g (by simp)), ⟨f, h1.of (hk gm (by simp)), h2⟩, x06 h.row (fun k hk' => hk k (by simp [hk'])), h.bg, h.bm⟩⟩
theorem DiskAt.under (h : DiskAt w base F g d) : Under w F := by
 obtain ⟨gm, v, rfl, h⟩ := h
 obtain ⟨f, h1, _⟩ := h.map
 intro k hk
 simp only [mem_cons] at hk
 rcases hk with rfl | rfl | hk
 ·exact h.blk.lt
 ·exact h1.lt
 ·exact x02 h.row k hk
theorem DiskAt.over (h : DiskAt w base F g d) : Over base F := by
 obtain ⟨gm, v, rfl, h⟩ := h
 intro k hk
 simp only [mem_cons] at hk
 rcases hk with rfl | rfl | hk
 ·exact h.bg
 ·exact h.bm
 ·exact x0G h.row k hk
theorem Lies.keep {v : Value} (h : Lies w base g gm v d) (hk : ∀ k, k ∈ g :: gm :: rowOf v -> w'.heap[k]? = w.heap[k]?) : Lies w' base g gm v d := by
 obtain ⟨f, h1, h2⟩ := h.map
 exact ⟨h.blk.of (hk g (by simp)), ⟨f, h1.of (hk gm (by simp)), h2⟩, x06 h.row (fun k hk' => hk k (by simp [hk'])), h.bg, h.bm⟩
theorem Lies.under {v : Value} (h : Lies w base g gm v d) : Under w (g :: gm :: rowOf v) := DiskAt.under (F := g :: gm :: rowOf v) (d := d) (base := base) (g := g) ⟨gm, v, rfl, h⟩
theorem Lies.alloc {v : Value} (h : Lies w base g gm v d) (o : Obj) : Lies (w.alloc o) base g gm v d := h.keep fun k hk => kG w o k (h.under k hk)
theorem Lies.drew {v : Value} (h : Lies w base g gm v d) : Lies w.drew base g gm v d := h.keep fun _ _ => rfl
theorem Lies.below {v : Value} (h : Lies w base g gm v d) (hb : Below w.heap.size w w') : Lies w' base g gm v d := h.keep fun k hk => hb.block k (h.under k hk)
theorem Lies.cells {v : Value} (h : Lies w base g gm v d) : w.cell? ⟨g, 0, none⟩ = some (.int .i64 d.steps) /\ w.cell? ⟨g, 1, none⟩ = some (.bool d.armed) /\ w.cell? ⟨g, 2, none⟩ = some (.int .i64 d.left) ∧
  w.cell? ⟨g, 3, none⟩ = some (.bool d.gone) /\ w.cell? ⟨g, 4, none⟩ = some (.int .i64 d.n) /\ w.cell? ⟨g, 5, none⟩ = some (.map (some gm)) /\ w.cell? ⟨g, 6, none⟩ = some v /\ ∀ i, w.frozen? ⟨g, i, none⟩ = false :=
 ⟨by rw [h.blk.cell]; rfl, by rw [h.blk.cell]; rfl, by rw [h.blk.cell]; rfl, by rw [h.blk.cell]; rfl, by rw [h.blk.cell]; rfl, by rw [h.blk.cell]; rfl, by rw [h.blk.cell]; rfl, fun i => h.blk.frozen i⟩
theorem Lies.waits {v v2 : Value} {x : Int × Sec} {w1 w2 : World} {o : Obj} (h : Lies w1 base g gm v d) (hg : (w1.drew.alloc o).grownBy w2 v.ownBlock) (hown : w2.ownsRow base 208 129 v2 (d.wait.length + 1) (d.wait.flatMap wrc ++ wrc x)) :
  Lies (w2.setCell ⟨g, 6, none⟩ v2) base g gm v2 { d with wait := d.wait ++ [x] } := by
 obtain ⟨f, h1, h2⟩ := h.map
 have hgw := h.blk.lt
 have hne : gm ≠ g := h1.ne_blk h.blk
 have hb2 : Blk w2 g 106 (dcells d gm v) := (h.blk.drew.alloc o).grown hg (Ne.symm (x12 h.row h.blk (by decide)))
 have hm2 : MapAt w2 gm f := (h1.of (w' := w1.drew.alloc o) (kG w1 o gm h1.lt)).of (hg.block gm (by have := h1.lt; simp; omega) (Ne.symm (h1.ne_row h.row)))
 refine ⟨?_, ⟨f, hm2.of (kE _ _ _ _ hne), h2⟩, ?_, h.bg, h.bm⟩
 ·exact hb2.set_ 6 v2
 ·have e : (d.wait ++ [x]).flatMap wrc = d.wait.flatMap wrc ++ wrc x := by simp
  show World.ownsRow _ base _ 129 v2 (d.wait ++ [x]).length ((d.wait ++ [x]).flatMap wrc)
  rw [e, kN]
  refine x06 hown fun k hk => kE _ _ _ _ ?_
  rintro rfl
  exact x12 hown hb2 (by decide) (x00.1 hk)
theorem Lies.maps {v : Value} {x : Int × Sec} {w1 w3 : World} {f : Int -> Option Value} (h : Lies w1 base g gm v d) (hf : ∀ k, (f k).getD Sec.zero.v = (d.sure k).v) (hg : w1.grownBy w3 (some gm)) (hm : MapAt w3 gm (fun k => if k = x.1 then some x.2.v else f k)) :
  Lies w3 base g gm v { d with sure := upd d.sure x } := by
 obtain ⟨f0, h1, _⟩ := h.map
 have hne : gm ≠ g := h1.ne_blk h.blk
 refine ⟨h.blk.of (hg.block g h.blk.lt (by simpa using Ne.symm hne)), ⟨_, hm, fun k => ?_⟩, ?_, h.bg, h.bm⟩
 ·show _ = (upd d.sure x k).v
  unfold upd
  by_cases hk : k = x.1 <;> simp [hk, hf]
 ·refine x06 h.row fun k hk => hg.block k (x02 h.row k hk) ?_
  intro e
  injection e with e
  subst e
  exact h1.ne_row h.row (x00.1 hk)
end
end
theorem xNI (n0 n1 : Nat) (v0 v1 : Value) (z : Array Value) (h0 : v0.cells.size = n0) (h1 : v1.cells.size = n1) (hz : z.size = n0 + n1) :
  Instr.fill (fun k => [(0, n0), (n0, n1)].toArray[k]?) z [(0, v0), (1, v1)] = some (v0.cells ++ v1.cells) := by
 obtain ⟨g1, g2⟩ := Great.foldl_set 0 v0.cells.toList 0 z
 obtain ⟨g3, g4⟩ := Great.foldl_set n0 v1.cells.toList 0 ((v0.cells.toList.zipIdx 0).foldl (fun cs (x : Value × Nat) => cs.setIfInBounds (0 + x.2) x.1) z)
 have e : ∀ (v : Value) (off : Nat) (c : Array Value), v.cells.zipIdx.foldl (fun cs (x : Value × Nat) => cs.setIfInBounds (off + x.2) x.1) c = (v.cells.toList.zipIdx 0).foldl (fun cs (x : Value × Nat) => cs.setIfInBounds (off + x.2) x.1) c := fun v off c => by
  rw [<- Array.foldl_toList, Array.toList_zipIdx]
 have hf : Instr.fill (fun k => [(0, n0), (n0, n1)].toArray[k]?) z [(0, v0), (1, v1)] = some (v1.cells.zipIdx.foldl (fun cs (x : Value × Nat) => cs.setIfInBounds (n0 + x.2) x.1) (v0.cells.zipIdx.foldl (fun cs (x : Value × Nat) => cs.setIfInBounds (0 + x.2) x.1) z)) := by
  unfold Instr.fill
  simp only [List.getElem?_toArray, List.getElem?_cons_zero]
  rw [if_neg (by simp; omega)]
  unfold Instr.fill
  simp only [List.getElem?_cons_succ, List.getElem?_cons_zero]
  rw [if_neg (by rw [e, g1]; simp; omega)]
  rfl
 rw [hf, e, e]
 congr 1
 apply Array.ext_getElem?
 intro k
 have g5 : ∀ k, z.size <= k -> (((v0.cells.toList.zipIdx 0).foldl (fun cs (x : Value × Nat) => cs.setIfInBounds (0 + x.2) x.1) z))[k]? = none := fun k hk => Array.getElem?_eq_none (by omega)
 rw [g4 k, g1]
 simp only [Nat.add_zero, Array.length_toList, h1]
 rw [Array.getElem?_append]
 by_cases hk : k < n0
 ·rw [if_neg (by omega), g2 k, if_pos (by simp [h0]; omega), if_pos (by omega)]
  simp
 ·by_cases hk2 : k < n0 + n1
  ·rw [if_pos ⟨by omega, hk2, by omega⟩, if_neg (by omega), h0]
   simp
  ·rw [if_neg (by omega), g5 k (by omega), if_neg (by omega), Array.getElem?_eq_none (by omega)]
theorem xCJ {n0 n1 : Nat} {fields : Array Field} (hu : P.underlying t = some (.struct fields)) (hz : (P.info? t).bind (fun i => i.zero.map fun z => z.cells.size) = some (n0 + n1))
 (hp : fields.toList.mapM (fun f => (P.info? f.type).map fun i => (f.offset, i.size)) = some [(0, n0), (n0, n1)]) {v0 v1 : Value} (h0 : v0.cells.size = n0) (h1 : v1.cells.size = n1) (w : World) :
  (Instr.build t #[(0, v0), (1, v1)]).run P w = .ok (.agg (v0.cells ++ v1.cells)) w := by
 cases hi : P.info? t with
 | none => simp [hi] at hz
 | some it =>
  cases hz' : it.zero with
  | none => simp [hi, hz'] at hz
  | some z =>
   simp [hi, hz'] at hz
   refine run_build w t _ _ ?_
   unfold Program.built
   simp only [hi, hu, hz', hp]
   exact xNI n0 n1 v0 v1 z.cells h0 h1 hz
theorem x1D {size : Nat} (hu : P.underlying t = some (.slice e)) (hz : (P.info? e).bind (fun i => i.zero.map fun z => (i.size, z.cells.size)) = some (size, size)) (hs : 0 < size) (hb : size <= 16777216) {v : Value} (h0 : v.cells.size = size) (w : World) :
  (Instr.buildSlice t 1 #[(0, v)]).run P w = .ok (.slice (some ⟨w.heap.size, 0, none⟩) 1 1) (w.alloc (.cells v.cells e)) := by
 cases hi : P.info? e with
 | none => simp [hi] at hz
 | some ie =>
  cases hz' : ie.zero with
  | none => simp [hi, hz'] at hz
  | some z =>
   simp [hi, hz'] at hz
   obtain ⟨e1, e2⟩ := hz
   refine run_buildSlice w t e 1 _ _ ie z hu hi hz' (by rw [e1]; omega) (by rw [e1]; omega) ?_
   have := Great.fill_whole hs [v] ((Array.range (1 * ie.size)).map (z.cells[· % z.cells.size]!)) (fun u hu => by simp at hu; subst hu; exact h0) (by simp [e1])
   rw [e1] at this ⊢
   simpa using this
theorem x2T {rest : List Oper} (hgd : o.guard = none) (ty : TypeId) (x y : Operand) (ho : o.op = .store ty x y)
 (cells : List Value) (Z : Array Value) (hx : a.eval x = .pointer (some ⟨w.heap.size, 0, none⟩)) (hy : a.eval y = .agg cells.toArray) (hi : (P.info? ty).map (·.size) = some cells.length) (hz : Z.size = cells.length) (h1 : ∀ v ∈ cells, v.oneCell' = true)
 (h : wpList P ops Q rest (a.put o.dst undef) (w.alloc (.cells cells.toArray ty))) : wpList P ops Q (o :: rest) a (w.alloc (.cells Z ty)) :=
 wpList_plain hgd fun _ hK => by
  have hr := run_storeAt_new (P := P) w ty Z cells.toArray (by simpa using hi) (by simpa using hz) (all_oneCell_toArray h1)
  unfold Oper.wp execOp
  simp only [ho, hx, hy, Sem.run_bind, hr, kS]
  exact hK _ _ h
theorem x07 {rest : List Oper} (hgd : o.guard = none) (ty : TypeId) (x y : Operand) (ho : o.op = .store ty x y) (N : Nat) (hN : w.heap.size = N)
 (cells : List Value) (Z : Array Value) (hx : a.eval x = .pointer (some ⟨N, 0, none⟩)) (hy : a.eval y = .agg cells.toArray) (hi : (P.info? ty).map (·.size) = some cells.length) (hz : Z.size = cells.length) (h1 : ∀ v ∈ cells, v.oneCell' = true)
 (h : wpList P ops Q rest (a.put o.dst undef) (w.alloc (.cells cells.toArray ty))) : wpList P ops Q (o :: rest) a (w.alloc (.cells Z ty)) := by
 subst hN
 exact x2T hgd ty x y ho cells Z hx hy hi hz h1 h
theorem x0P : ∀ w, (zeroValue 66).run prog w = .ok Sec.zero.v w := fun w => by kernel_rfl
theorem xBP : ∀ w, (Instr.build 66 #[]).run prog w = .ok Sec.zero.v w := fun w => by kernel_rfl
theorem x0X : (prog.info? 66).map (·.size) = some 128 := by kernel_rfl
theorem x8X : (prog.info? 66).map (fun i => (i.zero, i.size, i.bytes)) = some (some Sec.zero.v, 128, 128) := by kernel_rfl
theorem xHX : (prog.info? 208).map (fun i => (i.zero, i.size, i.bytes)) = some (some (.agg (wrc (0, Sec.zero)).toArray), 129, 136) := by kernel_rfl
theorem x6B : (prog.info? 208).map (·.size) = some 129 := by kernel_rfl
theorem xHD : (prog.info? 208).bind (fun i => i.zero.map fun z => z.cells.size) = some (128 + 1) := by kernel_rfl
theorem xFN : (prog.info? 208).bind (fun i => i.zero.map fun z => (i.size, z.cells.size)) = some (129, 129) := by kernel_rfl
theorem x2D (x : Int × Sec) : (wrc x).length = 129 := by simp [wrc, Sec.cs_len]
theorem xDQ (x : Int × Sec) : ∀ u ∈ wrc x, u.oneCell' = true := by
 intro u hu
 simp only [wrc, mem_append, mem_singleton] at hu
 rcases hu with hu | rfl
 ·exact x.2.one u hu
 ·rfl
theorem x6L : ∃ Z : Array Value, (∀ w, (zeroValue 208).run prog w = .ok (.agg Z) w) /\ Z.size = 129 :=
  ⟨(wrc (0, Sec.zero)).toArray, fun w => by kernel_rfl, by simp [x2D]⟩
theorem xFO (s : Sec) (i : Int) (w : World) : (Instr.build 208 #[(0, .agg s.cs.toArray), (1, .int .i64 i)]).run prog w = .ok (.agg (wrc (i, s)).toArray) w := by
 have := xCJ (P := prog) (n0 := 128) (n1 := 1) underlying208 xHD (by kernel_rfl) (v0 := .agg s.cs.toArray) (v1 := .int .i64 i) (by simp [Value.cells, s.cs_len]) rfl w
 have e : (Value.agg s.cs.toArray).cells ++ (Value.int .i64 i).cells = (wrc (i, s)).toArray := by simp [Value.cells, wrc]
 rw [this, e]
theorem xEU (x : Int × Sec) (w : World) : (Instr.buildSlice 104 1 #[(0, .agg (wrc x).toArray)]).run prog w = .ok (.slice (some ⟨w.heap.size, 0, none⟩) 1 1) (w.alloc (.cells (wrc x).toArray 208)) :=
  x1D underlying104 xFN (by omega) (by omega) (by simp [Value.cells, x2D]) w
theorem x84 (k : Nat) (w : World) : Calls prog 31 #[errV k] w fun e w' => e = .returned (.int .i64 k) /\ w = w' := by
 cases k with
 | zero =>
  simp only [errV]
  go_enter func31, ntmps31
  go_wp2
  go_ret
  exact ⟨rfl, rfl⟩
 | succ k =>
  simp only [errV]
  have hta : ∀ (n : Int) (w : World), (Instr.typeAssert (.iface 46 (.int .i64 n)) 28 46 true).run prog w = .ok (.tuple #[.int .i64 n, .bool true]) w := fun n w => by kernel_rfl
  have hne : (((k : Int) + 1) == 0) = false := by simp; omega
  have hne2 : (((k : Int) + 1) != 0) = true := by simp; omega
  go_enter func31, ntmps31
  go_wp2
  go_ret
  exact ⟨rfl, rfl⟩
def part (b k : Nat) : LN := List.replicate k b ++ List.replicate (128 - k) 0
theorem xBB : (prog.info? 5).map (fun i => (i.zero, i.size, i.bytes)) = some (some (.int .u8 0), 1, 1) := by kernel_rfl
def Own (w : World) (base : Nat) (v : Value) (n : Nat) (bs : LN) : Prop := w.ownsRow base 5 1 v n (u8s bs)
theorem Own.nil (w : World) (base : Nat) : Own w base (.slice none 0 0) 0 [] := World.ownsRow_nil w base _ 1
theorem Own.new (w : World) (base : Nat) (hb : base <= w.heap.size) : Own (w.alloc (.cells #[] 5)) base (.slice (some ⟨w.heap.size, 0, none⟩) 0 0) 0 [] := by
 have := World.ownsRow_made (base := base) (e := 5) (size := 1) w #[] 0 hb (by simp [maxLen]) (by simp)
 simpa [Own, u8s] using this
theorem Own.len {v : Value} (h : Own w base v n bs) : bs.length = n := by
 have := h.1
 rw [x0C] at this
 omega
theorem Own.form {v : Value} (h : Own w base v n bs) :
    ∃ (A : OA) (cap : Nat), v = .slice A n cap /\ n <= cap /\ cap <= maxLen /\ (A = none /\ n = 0 /\ cap = 0 ∨ ∃ g, A = some ⟨g, 0, none⟩ /\ base <= g /\ g < w.heap.size) := by
  rcases h.2 with ⟨rfl, hx⟩ | ⟨g, cap, cur, rfl, hbg, hg, hnc, hcm, hcs, hpre⟩
  · have : n = 0 := by have := h.1; rw [hx] at this; simp at this; omega
    subst this
    exact ⟨none, 0, rfl, by omega, by simp [maxLen], .inl ⟨rfl, rfl, rfl⟩⟩
  · have hlt : g < w.heap.size := by
      rcases Nat.lt_or_ge g w.heap.size with h1 | h1
      · exact h1
      · rw [Array.getElem?_eq_none h1] at hg; cases hg
    exact ⟨some ⟨g, 0, none⟩, cap, rfl, hnc, hcm, .inr ⟨g, rfl, hbg, hlt⟩⟩
theorem Own.bytes {c : Nat} (h : Own w base (.slice A n c) n bs) (hb : ∀ b ∈ bs, b < 256) : Bytes w w.heap.size A n bs :=
  ⟨Reads.of_own h, hb⟩
theorem Own.alloc {v : Value} (h : Own w base v n bs) (o : Obj) : Own (w.alloc o) base v n bs := World.ownsRow.alloc h o
theorem Own.below {v : Value} (h : Own w base v n bs) (hb : Below w.heap.size w w') : Own w' base v n bs :=
  World.ownsRow.kept (row := none) h ⟨hb.os, hb.tape, hb.output, hb.size, fun i hi _ => hb.block i hi⟩ (by cases v.ownBlock <;> simp)
theorem Own.weaken {base' : Nat} {v : Value} (h : Own w base v n bs) (hb : base' <= base) : Own w base' v n bs := by
 refine ⟨h.1, ?_⟩
 rcases h.2 with h | ⟨g, cap, cur, e, hg, r⟩
 ·exact .inl h
 ·exact .inr ⟨g, cap, cur, e, kT hb hg, r⟩
theorem Own.grown {v : Value} (h : Own w base v n bs) (hg : w.grownBy w' row) (hne : v.ownBlock = none ∨ v.ownBlock ≠ row) : Own w' base v n bs :=
  World.ownsRow.kept h hg hne
theorem x2X {rest : List Oper} (s x : Operand)
 (hgd : o.guard = none) (ho : o.op = .call {callee := .builtin .append, args := #[s, x], argTypes := #[35, 35] })
 (base : Nat) (v : Value) (n : Nat) (bs : LN) (hs : a.eval s = v) (hown : Own w base v n bs)
 (B : Nat) (A : OA) (m c : Nat) (news : LN) (hx : a.eval x = .slice A m c) (hr : Bytes w B A m news)
 (hsz : n + m <= 100000000000000) (hbase : base <= w.heap.size)
 (h : ∀ v' w', Own w' base v' (n + m) (bs ++ news) -> w.grownBy w' v.ownBlock -> (v'.ownBlock = v.ownBlock ∨ v'.ownBlock = some w.heap.size) -> wpList prog ops Q rest (a.put o.dst v') w') :
  wpList prog ops Q (o :: rest) a w := by
 obtain ⟨i0, hi0, hz0, hz1, hz2⟩ := info_parts xBB
 refine x0Z w hgd s x _ ho base 5 i0 _ 1 1 underlying35 hi0 hz0 hz1 hz2 rfl (by omega) v n (u8s bs) hs hown B A m c (u8s news) hx hr.1 (x1W _)
  (by simp only [maxLen]; omega) (by omega) hbase ?_
 intro v' w' h1 h2 h3
 exact h v' w' (by unfold Own; rw [u8s, map_append]; exact h1) h2 h3
def strOf (bs : LN) : ByteArray := strOfNums (bs.map fun (b : Nat) => (b : Int))
theorem x4C (h : Bytes w B A n bs) (c : Nat) (src dst e : TypeId)
 (hs : P.underlying src = some (.slice e)) (he : P.underlying e = some (.int .u8)) (hd : P.underlying dst = some .string) :
    (convert src dst (.slice A n c)).run P w = .ok (.string (strOf bs)) w := by
  rw [run_convert_bytes_string w src dst e _ n c hs he hd]
  rcases A with _ | a
  · have hn : n = 0 := by
      rcases Nat.eq_zero_or_pos n with h0 | h0
      · exact h0
      · obtain ⟨ad, h1, _⟩ := h.1.2 h0
        cases h1
    have hb : bs = [] := eq_nil_of_length_eq_zero (by rw [h.len, hn])
    subst hb
    simp [Conv.bytesToString, strOf, strOfNums]
    rfl
  · have hcell : ∀ j v, (u8s bs)[j]? = some v -> w.cell? (a.add j) = some v := by
      intro j v hj
      have hlt : j < n := by
        rcases Nat.lt_or_ge j n with h1 | h1
        · exact h1
        · rw [List.getElem?_eq_none (by rw [x0C, h.len]; exact h1)] at hj
          cases hj
      obtain ⟨ad, he', _, hc⟩ := h.1.2 (by omega)
      injection he' with he'
      subst he'
      exact hc j v hj
    have hl : (loadCells a n).run P w = .ok ((bs.map fun (b : Nat) => (b : Int)).map (Value.int .u8)).toArray w := by
      have h1 := run_loadCells_list (P := P) w a (u8s bs) hcell
      rw [x0C, h.len] at h1
      rw [h1, map_map]
      rfl
    rw [run_bytesToString w _ n c _ hl, foldl_push_bytes]
    simp [strOf, strOfNums, ByteArray.empty, ByteArray.emptyWithCapacity]
    rfl
theorem xBU {w0 : World} {v : Value} (h : Below B w0 w) (hown : Own w base v n bs) (hB : B <= base) (hg : w.grownBy w' v.ownBlock) (hs : B <= w.heap.size) : Below B w0 w' :=
  h.grown hg hs (fun k hk => by have := (kD hown k hk).1; omega)
section
theorem xC0 (A : OA) (n c : Nat) (w : World) : (binOp .eql 35 (.slice A n c) (.slice none 0 0)).run prog w = .ok (.bool A.isNone) w := by
  cases A <;> kernel_rfl
theorem Reads.since {size : Nat} (h : Reads w B size A n xs) (hb : Below w.heap.size w w') : Reads w' B size A n xs :=
 ⟨h.1, fun hn => by
  obtain ⟨ad, e, hB, hc⟩ := h.2 hn
  exact ⟨ad, e, hB, fun j u hu => (hb.cell (World.block_lt_of_cell? w _ (hc j u hu))).trans (hc j u hu)⟩⟩
theorem Bytes.since (h : Bytes w B A n bs) (hb : Below w.heap.size w w') : Bytes w' B A n bs := ⟨h.1.since hb, h.2⟩
theorem x0D (w : World) (o : Obj) : Below w.heap.size w (w.alloc o) := (kB _ _).alloc (kR _) _
theorem x0Q (A : OA) (n c : Nat) (bs : LN) (w : World) (B : Nat) (hn : n <= 10000000) (hb : Bytes w B A n bs) :
    Calls prog 105 #[.slice A n c] w fun e w' => ∃ v, e = .returned v /\ Own w' w.heap.size v n bs /\ Below w.heap.size w w' := by
  have hnil := xC0 A n c
  rcases A with _ | ad
  · have hn0 : n = 0 := by
      rcases Nat.eq_zero_or_pos n with h | h
      · exact h
      · obtain ⟨_, h, _⟩ := hb.1.2 h; cases h
    subst hn0
    obtain rfl : bs = [] := eq_nil_of_length_eq_zero hb.len
    simp only [Option.isNone_none] at hnil
    go_enter func105, ntmps105
    go_wp2
    go_ret
    exact ⟨_, rfl, Own.nil _ _, kB _ _⟩
  · simp only [Option.isNone_some] at hnil
    have hb1 := hb.since (x0D w (.cells #[] 5))
    go_enter func105, ntmps105
    go_wp2_with (refine x2X (.tmp 5) (.tmp 6) rfl rfl w.heap.size (.slice (some ⟨w.heap.size, 0, none⟩) 0 0) 0 [] rfl (Own.new w w.heap.size (kR _)) B (some ad) n c bs rfl hb1 (by omega) (by simp) ?_
                 intro v2 w2 h2 g2 a2)
    go_ret
    exact ⟨v2, rfl, by simpa using h2, xBU (x0D w _) (Own.new w w.heap.size (kR _)) (kR _) g2 (by simp)⟩
def WrAt (w : World) (base : Nat) (F : LN) (g : Nat) (bs : LN) : Prop :=
  ∃ v, F = g :: rowOf v /\ Blk w g 117 #[v] /\ Own w base v bs.length bs /\ base <= g /\ ∀ b ∈ bs, b < 256
def WrTo (w : World) (base : Nat) (F : LN) (g : Nat) (bs : LN) (w' : World) : Prop := ∃ F', WrAt w' base F' g bs /\ Only F w w' /\ Fresh w F F'
section
variable {w w' : World} {base g : Nat} {F : LN} {bs : LN}
theorem WrAt.of (h : WrAt w base F g bs) (hk : ∀ k, k ∈ F -> w'.heap[k]? = w.heap[k]?) : WrAt w' base F g bs := by
 obtain ⟨v, rfl, h1, h2, h3⟩ := h
 exact ⟨v, rfl, h1.of (hk g (by simp)), x06 h2 (fun k hk' => hk k (by simp [hk'])), h3⟩
theorem WrAt.under (h : WrAt w base F g bs) : Under w F := by
 obtain ⟨v, rfl, h1, h2, h3⟩ := h
 intro k hk
 rcases kQ hk with rfl | hk
 ·exact h1.lt
 ·exact x02 h2 k hk
theorem WrAt.over (h : WrAt w base F g bs) : Over base F := by
 obtain ⟨v, rfl, h1, h2, h3, h4⟩ := h
 intro k hk
 rcases kQ hk with rfl | hk
 ·exact h3
 ·exact x0G h2 k hk
end
theorem xOP (v : Value) (w : World) : Calls prog 101 #[.pointer none, v] w fun e w' => e = .returned (.tuple #[]) /\ w = w' := by
 go_enter func101, ntmps101
 go_wp2
 refine kZ (results_none rfl _ _ _) rfl ?_
 exact ⟨rfl, rfl⟩
theorem xOD (w : World) (base g : Nat) (F : LN) (bs news : LN) (B : Nat) (A : OA) (n c : Nat) (h : WrAt w base F g bs) (hb : Bytes w B A n news) (hl : bs.length + n <= 10000000) (hB : base <= w.heap.size) :
    Calls prog 101 #[.pointer (some ⟨g, 0, none⟩), .slice A n c] w fun e w' => e = .returned (.tuple #[]) /\ WrTo w base F g (bs ++ news) w' := by
  obtain ⟨v, rfl, h1, h2, h3, h4⟩ := h
  have hne : v.ownBlock ≠ some g := x12 h2 h1 (by decide)
  obtain ⟨A1, c1, rfl, -, -, -⟩ := h2.form
  have hc : w.cell? ⟨g, 0, none⟩ = some (.slice A1 bs.length c1) := by rw [h1.cell]; rfl
  have hlt := h1.lt
  go_enter func101, ntmps101
  go_wp2_with (refine x2X (.tmp 10) (.tmp 11) rfl rfl base (.slice A1 bs.length c1) bs.length bs rfl h2 B A n c news rfl hb (by omega) hB ?_
               intro v2 w2 k2 g2 a2
               have hc2 : w2.cell? ⟨g, 0, none⟩ = some (.slice A1 bs.length c1) := by rw [(h1.grown g2 (Ne.symm hne)).cell]; rfl
               have hf2 : w2.frozen? ⟨g, 0, none⟩ = false := (h1.grown g2 (Ne.symm hne)).frozen _
               obtain ⟨A2, c2, rfl, -, -, -⟩ := k2.form)
  refine kZ (results_none rfl _ _ _) rfl ?_
  have hb2 := h1.grown g2 (Ne.symm hne)
  have hne2 : (Value.slice A2 (bs.length + n) c2).ownBlock ≠ some g := x12 k2 hb2 (by decide)
  have hlen : (bs ++ news).length = bs.length + n := by rw [kN, hb.len]
  refine ⟨rfl, g :: rowOf (.slice A2 (bs.length + n) c2), ⟨_, rfl, hb2.set_ 0 _, ?_, h3, fun b hm => ?_⟩, ?_, fun k hk => ?_⟩
  · rw [hlen]
    exact x06 k2 fun k hk => kE _ _ _ _ (fun e => hne2 (by subst e; exact x00.1 hk))
  · rcases mem_append.1 hm with hm | hm
    · exact h4 b hm
    · exact hb.2 b hm
  · exact ((Only.refl _ _).grown g2 (fun k e => .inl (by simp [rowOf, <- e]))).setCell (.inl (by simp)) _
  · rcases kQ hk with rfl | hk
    · exact .inl (by simp)
    · have hk' := x00.1 hk
      rcases a2 with e | e
      · exact .inl (kM _ (x00.2 (by rw [<- e]; exact hk')))
      · rw [e] at hk'; injection hk' with hk'; exact .inr (by omega)
theorem x3W (w : World) : (zeroValue 186).run prog w = .ok (.agg #[.int .u8 0, .int .u8 0, .int .u8 0, .int .u8 0, .int .u8 0, .int .u8 0, .int .u8 0, .int .u8 0]) w := by kernel_rfl
theorem xOT (n : Int) : (u8s (numB n)).toArray = #[.int .u8 (n % 256), .int .u8 (n / 256 % 256), .int .u8 (n / 65536 % 256), .int .u8 (n / 16777216 % 256), .int .u8 (n / 4294967296 % 256), .int .u8 (n / 1099511627776 % 256), .int .u8 (n / 281474976710656 % 256), .int .u8 (n / 72057594037927936 % 256)] := by
 simp only [numB, le, u8s, u8, nat64, map_cons, map_nil]
 simp only [List.toArray, Array.mk.injEq, List.cons.injEq, Value.int.injEq, true_and, and_true]
 refine ⟨?_, ?_, ?_, ?_, ?_, ?_, ?_, ?_⟩ <;> omega
theorem xHC (n : Int) (w : World) : Calls prog 100 #[.int .i64 n] w fun e w' => e = .returned (.agg (u8s (numB n)).toArray) /\ Below w.heap.size w w' := by
 have hz := x3W
 go_enter func100, ntmps100
 go_wp2
 go_rounds 9
 refine bodyPost_ret (results_cell_row rfl _ _ w.heap.size 186 _ (0, 0) _ rfl ((Blk.new w _ _).alloc _) underlying186 rfl (by kernel_rfl)) rfl ?_
 exact ⟨by rw [xOT], ((kB _ _).alloc (kR _) _).alloc (by simp) _⟩
theorem x7I (b0 b1 b2 b3 b4 b5 b6 b7 : Nat) (w : World) (h0 : b0 < 256) (h1 : b1 < 256) (h2 : b2 < 256) (h3 : b3 < 256) (h4 : b4 < 256) (h5 : b5 < 256) (h6 : b6 < 256) (h7 : b7 < 256) :
  Calls prog 183 #[.agg (u8s [b0, b1, b2, b3, b4, b5, b6, b7]).toArray] w fun e w' => e = .returned (.int .i64 (numOf [b0, b1, b2, b3, b4, b5, b6, b7])) /\ Below w.heap.size w w' := by
 simp only [u8s, u8, map_cons, map_nil]
 have x0 : ∀ w, (Instr.index 186 (.agg #[.int .u8 (b0 : Int), .int .u8 (b1 : Int), .int .u8 (b2 : Int), .int .u8 (b3 : Int), .int .u8 (b4 : Int), .int .u8 (b5 : Int), .int .u8 (b6 : Int), .int .u8 (b7 : Int)]) (.int .i64 0)).run prog w = .ok (.int .u8 b0) w := fun w => by kernel_rfl
 have x1 : ∀ w, (Instr.index 186 (.agg #[.int .u8 (b0 : Int), .int .u8 (b1 : Int), .int .u8 (b2 : Int), .int .u8 (b3 : Int), .int .u8 (b4 : Int), .int .u8 (b5 : Int), .int .u8 (b6 : Int), .int .u8 (b7 : Int)]) (.int .i64 1)).run prog w = .ok (.int .u8 b1) w := fun w => by kernel_rfl
 have x2 : ∀ w, (Instr.index 186 (.agg #[.int .u8 (b0 : Int), .int .u8 (b1 : Int), .int .u8 (b2 : Int), .int .u8 (b3 : Int), .int .u8 (b4 : Int), .int .u8 (b5 : Int), .int .u8 (b6 : Int), .int .u8 (b7 : Int)]) (.int .i64 2)).run prog w = .ok (.int .u8 b2) w := fun w => by kernel_rfl
 have x3 : ∀ w, (Instr.index 186 (.agg #[.int .u8 (b0 : Int), .int .u8 (b1 : Int), .int .u8 (b2 : Int), .int .u8 (b3 : Int), .int .u8 (b4 : Int), .int .u8 (b5 : Int), .int .u8 (b6 : Int), .int .u8 (b7 : Int)]) (.int .i64 3)).run prog w = .ok (.int .u8 b3) w := fun w => by kernel_rfl
 have x4 : ∀ w, (Instr.index 186 (.agg #[.int .u8 (b0 : Int), .int .u8 (b1 : Int), .int .u8 (b2 : Int), .int .u8 (b3 : Int), .int .u8 (b4 : Int), .int .u8 (b5 : Int), .int .u8 (b6 : Int), .int .u8 (b7 : Int)]) (.int .i64 4)).run prog w = .ok (.int .u8 b4) w := fun w => by kernel_rfl
 have x5 : ∀ w, (Instr.index 186 (.agg #[.int .u8 (b0 : Int), .int .u8 (b1 : Int), .int .u8 (b2 : Int), .int .u8 (b3 : Int), .int .u8 (b4 : Int), .int .u8 (b5 : Int), .int .u8 (b6 : Int), .int .u8 (b7 : Int)]) (.int .i64 5)).run prog w = .ok (.int .u8 b5) w := fun w => by kernel_rfl
 have x6 : ∀ w, (Instr.index 186 (.agg #[.int .u8 (b0 : Int), .int .u8 (b1 : Int), .int .u8 (b2 : Int), .int .u8 (b3 : Int), .int .u8 (b4 : Int), .int .u8 (b5 : Int), .int .u8 (b6 : Int), .int .u8 (b7 : Int)]) (.int .i64 6)).run prog w = .ok (.int .u8 b6) w := fun w => by kernel_rfl
 have x7 : ∀ w, (Instr.index 186 (.agg #[.int .u8 (b0 : Int), .int .u8 (b1 : Int), .int .u8 (b2 : Int), .int .u8 (b3 : Int), .int .u8 (b4 : Int), .int .u8 (b5 : Int), .int .u8 (b6 : Int), .int .u8 (b7 : Int)]) (.int .i64 7)).run prog w = .ok (.int .u8 b7) w := fun w => by kernel_rfl
 go_enter func183, ntmps183
 go_wp2
 go_rounds 9
 go_ret
 refine ⟨?_, x0D _ _⟩
 exact congrArg (fun q => Ending.returned (.int .i64 q)) (xN7 b0 b1 b2 b3 b4 b5 b6 b7 h0 h1 h2 h3 h4 h5 h6 h7)
end
section
section
variable {P : Program} {ops : Array Oper} {Q : Exit -> Act -> World -> Prop} {md : Region.Mode}
theorem x1M {fuel : Nat} {listed : Array Bool} (hr : Region.ready md ops listed = [i]) (ho : ops[i]? = some o) (hw : Region.wanted o (yielded ops a.tmps) = true)
 (h : Oper.wp P o a w (fun a' w' => wpAny P md ops Q fuel (listed.setIfInBounds i true) a' w') Q) : wpAny P md ops Q (fuel + 1) listed a w :=
 wpAny_ready hr (by simp) (AllReady.cons ho (fun K hK => by rw [if_pos hw]; exact Oper.wp_mono (fun a w h => hK a w h) h) AllReady.nil)
theorem x10 {v : Value} (hv : (execOp a.eval o).run P w = .ok (.value v) w) (h : K (a.put o.dst v) w) : Oper.wp P o a w K Q := by
 unfold Oper.wp
 rw [hv]
 exact h
theorem x0A {v : Value} (hv : (execOp a.eval o).run P w = .ok (.value v) w') (h : K (a.put o.dst v) w') : Oper.wp P o a w K Q := by
 unfold Oper.wp
 rw [hv]
 exact h
theorem x03 {f : FuncId} {args : Array Value} {R : Ending -> World -> Prop} (hv : (execOp a.eval o).run P w = .ok (.enter f args) w) (hc : Calls P f args w R) (h : ∀ e w', R e w' -> ∃ v, e = .returned v /\ K (a.put o.dst v) w') : Oper.wp P o a w K Q := by
 unfold Oper.wp
 rw [hv, Oper.upon_enter]
 refine hc.mono fun e w' hr => ?_
 obtain ⟨v, rfl, hk⟩ := h e w' hr
 exact hk
def wpT (P : Program) (md : Region.Mode) (ops : Array Oper) (Q : Exit -> Act -> World -> Prop) (T : World -> Prop) (i : Nat) : Nat -> Bool -> Array Bool -> Act -> World -> Prop
  | 0, _, l, a, w => Region.ready md ops l = [] /\ Q .normal a w
  | f + 1, on, l, a, w => (Region.ready md ops l = [] -> Q .normal a w) /\ ∀ j ∈ Region.ready md ops l,
      wpOp P ops Q j (fun a' w' => ((on && (Region.ready md ops (l.setIfInBounds i false)).contains j) = true -> T w') ∧
        wpT P md ops Q T i f (on && (Region.ready md ops (l.setIfInBounds i false)).contains j) (l.setIfInBounds j true) a' w') a w
variable {T : World -> Prop} {i : Nat}
theorem xCN : ∀ (f : Nat) (on : Bool) (l : Array Bool) (a : Act) (w : World), wpT P md ops Q T i f on l a w -> wpAny P md ops Q f l a w
 | 0, _, _, _, _, h => h
 | f + 1, _, _, _, _, h => ⟨h.1, fun j hj => wpOp_mono (fun a' w' h' => xCN f _ _ a' w' h'.2) (h.2 j hj)⟩
theorem xE0 : ∀ (f : Nat) (l : Array Bool) (a : Act) (w : World), wpAny P md ops Q f l a w -> wpT P md ops Q T i f false l a w
 | 0, _, _, _, h => h
 | f + 1, _, _, _, h => ⟨h.1, fun j hj => wpOp_mono (fun a' w' h' => ⟨fun e => by simp at e, xE0 f _ a' w' h'⟩) (h.2 j hj)⟩
theorem xNS (h : l.getD i true = false) : (l.setIfInBounds i true).setIfInBounds i false = l := by
 have hlt : i < l.size := by
  rcases Nat.lt_or_ge i l.size with h1 | h1
  ·exact h1
  ·simp [Array.getElem?_eq_none h1] at h
 apply Array.ext_getElem?
 intro k
 by_cases hk : i = k
 ·subst hk
  simp [hlt] at h ⊢
  exact h
 ·simp [hk]
theorem xGM {v : Value} (hi : ops[i]? = some oi) (hsel : ∀ (j : Nat) (o : Oper) cs b, ops[j]? = some o -> o.op ≠ .select cs b)
 (hQ : ∀ c a w, Q (.panic c) (a.put oi.dst v) w -> Q (.panic c) a w) :
  ∀ (f : Nat) (l : Array Bool) (a : Act) (w : World),
   (∀ j oj, ops[j]? = some oj -> j ≠ i -> l.getD j true = false -> (∀ e ∈ oj.after, Region.binds md e = true -> e.on ≠ i) -> oi.apart ops oj = true) →
   i ∈ Region.ready md ops l -> YieldsIf P ops T oi v a -> T w →
   wpT P md ops Q T i f true (l.setIfInBounds i true) (a.put oi.dst v) w -> wpAny P md ops Q (f + 1) l a w
 | 0, l, a, w, _, hr, hy, hT, H => by
  refine ⟨fun h => (by rw [h] at hr; cases hr), fun j hj => ?_⟩
  by_cases hji : j = i
  ·subst hji
   exact hy.wpOp hi hT H
  ·have := ready_mono hj hji
   rw [H.1] at this
   cases this
 | f + 1, l, a, w, hfree, hr, hy, hT, H => by
  refine ⟨fun h => (by rw [h] at hr; cases hr), fun j hj => ?_⟩
  by_cases hji : j = i
  ·subst hji
   exact hy.wpOp hi hT (xCN _ _ _ _ _ H)
  ·obtain ⟨hjun, oj, hoj, hall⟩ := mem_ready.1 hj
   have hiun : l.getD i true = false := (mem_ready.1 hr).1
   have h1 := H.2 j (ready_mono hj hji)
   rw [xNS hiun] at h1
   have hon : (true && (Region.ready md ops l).contains j) = true := by simpa using hj
   rw [hon] at h1
   have hnot : ∀ e ∈ oj.after, Region.binds md e = true -> e.on ≠ i := fun e he hb heq => by
    have h2 := hall e he hb
    rw [heq] at h2
    rcases Nat.lt_or_ge i l.size with h' | h'
    ·simp [h'] at hiun h2
     rw [hiun] at h2
     cases h2
    ·simp [Array.getElem?_eq_none h'] at h2
   have h2 := wpOp_putIf hoj (hfree j oj hoj hji hjun hnot) (fun cs b => hsel i oi cs b hi) (fun cs b => hsel j oj cs b hoj) hQ hy h1
   refine wpOp_mono (fun a' w' h3 => ?_) h2
   obtain ⟨hy', hT', H'⟩ := h3
   rw [Array.setIfInBounds_comm _ _ (Ne.symm hji)] at H'
   refine xGM hi hsel hQ f _ a' w' (fun k ok hk hki hun hno => hfree k ok hk hki ?_ hno) (ready_mono hr (Ne.symm hji)) hy' (hT' rfl) H'
   by_cases hjk : j = k
   ·subst hjk; exact hjun
   ·rw [getD_set_ne true hjk] at hun; exact hun
theorem xPY {v : Value} (hi : ops[i]? = some oi) (hs : Region.noSelect ops = true) (hf : Region.free md ops l i = true) (hr : (Region.ready md ops l).contains i = true)
 (hQ : ∀ c a w, Q (.panic c) (a.put oi.dst v) w -> Q (.panic c) a w) (hy : YieldsIf P ops T oi v a) (hT : T w)
 (h : wpT P md ops Q T i f true (l.setIfInBounds i true) (a.put oi.dst v) w) : wpAny P md ops Q (f + 1) l a w :=
 xGM hi (Region.noSelect_spec hs) hQ f l a w (Region.free_spec hi hf) (by simpa using hr) hy hT h
theorem xHL (hr : Region.ready md ops l = [j]) (ho : ops[j]? = some o) (hw : Region.wanted o (yielded ops a.tmps) = true)
 (hc : (Region.ready md ops (l.setIfInBounds i false)).contains j = true)
 (h : Oper.wp P o a w (fun a' w' => T w' /\ wpT P md ops Q T i f true (l.setIfInBounds j true) a' w') Q) : wpT P md ops Q T i (f + 1) true l a w := by
 refine ⟨fun h0 => absurd (hr ▸ h0) (by simp), fun k hk => ?_⟩
 rw [hr] at hk
 obtain rfl := mem_singleton.1 hk
 refine wpOp_step ho (fun K hK => ?_)
 rw [if_pos hw]
 refine Oper.wp_mono (fun a' w' h' => hK a' w' ?_) h
 rw [Bool.true_and, hc]
 exact ⟨fun _ => h'.1, h'.2⟩
theorem xQH (hr : Region.ready md ops l = [j]) (ho : ops[j]? = some o) (hw : Region.wanted o (yielded ops a.tmps) = true)
 (hc : (Region.ready md ops (l.setIfInBounds i false)).contains j = false)
 (h : Oper.wp P o a w (fun a' w' => wpAny P md ops Q f (l.setIfInBounds j true) a' w') Q) : wpT P md ops Q T i (f + 1) true l a w := by
 refine ⟨fun h0 => absurd (hr ▸ h0) (by simp), fun k hk => ?_⟩
 rw [hr] at hk
 obtain rfl := mem_singleton.1 hk
 refine wpOp_step ho (fun K hK => ?_)
 rw [if_pos hw]
 refine Oper.wp_mono (fun a' w' h' => hK a' w' ?_) h
 rw [Bool.true_and, hc]
 exact ⟨fun e => (by cases e), xE0 _ _ _ _ h'⟩
theorem x2G {id : Nat} (hm : P.follows .mixedOrders = true) (h : wpAny P .any ops (NoPanic Q) ops.size (Array.replicate ops.size false) a w.drew) : (Code.region id ops true).wp P Q a w :=
  wp_region_noPanic (wp_region_any hm h)
end
end
section
section
variable {P : Program} {ops : Array Oper} {Q : Exit -> Act -> World -> Prop} {md : Region.Mode} {S : World -> Prop} {L : Nat}
def wpAnyL (P : Program) (md : Region.Mode) (ops : Array Oper) (Q : Exit -> Act -> World -> Prop) (S : World -> Prop) (L : Nat) : Nat -> Array Bool -> Act -> World -> Prop
 | 0, l, a, w => Region.ready md ops l = [] /\ Q .normal a w
 | f + 1, l, a, w => (Region.ready md ops l = [] -> Q .normal a w) /\ ∀ j ∈ Region.ready md ops l, wpOp P ops Q j (fun a' w' => (j ≠ L -> S w') /\ wpAnyL P md ops Q S L f (l.setIfInBounds j true) a' w') a w
theorem xDW : ∀ (f : Nat) (l : Array Bool) (a : Act) (w : World), wpAnyL P md ops Q S L f l a w -> wpAny P md ops Q f l a w
 | 0, _, _, _, h => h
 | f + 1, _, _, _, h => ⟨h.1, fun j hj => wpOp_mono (fun a' w' h' => xDW f _ a' w' h'.2) (h.2 j hj)⟩
theorem xG2 {v : Value} (hi : ops[i]? = some oi) (hL : ops[L]? = some oL) (hw : oL.after.any (fun e => Region.binds md e && e.on == i) = true) (hsel : ∀ (j : Nat) (o : Oper) cs b, ops[j]? = some o -> o.op ≠ .select cs b)
 (hQ : ∀ c a w, Q (.panic c) (a.put oi.dst v) w -> Q (.panic c) a w) :
  ∀ (f : Nat) (l : Array Bool) (a : Act) (w : World),
   (∀ j oj, ops[j]? = some oj -> j ≠ i -> l.getD j true = false -> (∀ e ∈ oj.after, Region.binds md e = true -> e.on ≠ i) -> oi.apart ops oj = true) →
   i ∈ Region.ready md ops l -> YieldsIf P ops S oi v a -> S w →
   wpAnyL P md ops Q S L f (l.setIfInBounds i true) (a.put oi.dst v) w -> wpAnyL P md ops Q S L (f + 1) l a w
 | 0, l, a, w, _, hr, hy, hS, H => by
  refine ⟨fun h => (by rw [h] at hr; cases hr), fun j hj => ?_⟩
  by_cases hji : j = i
  ·subst hji
   exact hy.wpOp hi hS ⟨fun _ => hS, H⟩
  ·have := ready_mono hj hji
   rw [H.1] at this
   cases this
 | f + 1, l, a, w, hfree, hr, hy, hS, H => by
  refine ⟨fun h => (by rw [h] at hr; cases hr), fun j hj => ?_⟩
  by_cases hji : j = i
  ·subst hji
   exact hy.wpOp hi hS ⟨fun _ => hS, H⟩
  ·obtain ⟨hjun, oj, hoj, hall⟩ := mem_ready.1 hj
   have hiun : l.getD i true = false := (mem_ready.1 hr).1
   have h1 := H.2 j (ready_mono hj hji)
   have hnot : ∀ e ∈ oj.after, Region.binds md e = true -> e.on ≠ i := fun e he hb heq => by
    have h2 := hall e he hb
    rw [heq] at h2
    rcases Nat.lt_or_ge i l.size with h' | h'
    ·simp [h'] at hiun h2
     rw [hiun] at h2
     cases h2
    ·simp [Array.getElem?_eq_none h'] at h2
   have hjL : j ≠ L := by
    rintro rfl
    rw [hL] at hoj
    injection hoj with hoj
    subst hoj
    obtain ⟨k, hk, he⟩ := Array.any_eq_true.1 hw
    simp only [Bool.and_eq_true, beq_iff_eq] at he
    exact hnot _ (Array.getElem_mem hk) he.1 he.2
   have h2 := wpOp_putIf hoj (hfree j oj hoj hji hjun hnot) (fun cs b => hsel i oi cs b hi) (fun cs b => hsel j oj cs b hoj) hQ hy h1
   refine wpOp_mono (fun a' w' h3 => ?_) h2
   obtain ⟨hy', hS', H'⟩ := h3
   rw [Array.setIfInBounds_comm _ _ (Ne.symm hji)] at H'
   refine ⟨fun _ => hS' hjL, xG2 hi hL hw hsel hQ f _ a' w' (fun k ok hk hki hun hno => hfree k ok hk hki ?_ hno) (ready_mono hr (Ne.symm hji)) hy' (hS' hjL) H'⟩
   by_cases hjk : j = k
   ·subst hjk; exact hjun
   ·rw [getD_set_ne true hjk] at hun; exact hun
theorem xQ6 {v : Value} (hi : ops[i]? = some oi) (hL : ops[L]? = some oL) (hw : oL.after.any (fun e => Region.binds md e && e.on == i) = true) (hs : Region.noSelect ops = true) (hf : Region.free md ops l i = true) (hr : (Region.ready md ops l).contains i = true)
 (hQ : ∀ c a w, Q (.panic c) (a.put oi.dst v) w -> Q (.panic c) a w) (hy : YieldsIf P ops S oi v a) (hS : S w)
 (h : wpAnyL P md ops Q S L f (l.setIfInBounds i true) (a.put oi.dst v) w) : wpAnyL P md ops Q S L (f + 1) l a w :=
 xG2 hi hL hw (Region.noSelect_spec hs) hQ f l a w (Region.free_spec hi hf) (by simpa using hr) hy hS h
theorem xGN {v : Value} (hi : ops[i]? = some oi) (hL : ops[L]? = none) (hsel : ∀ (j : Nat) (o : Oper) cs b, ops[j]? = some o -> o.op ≠ .select cs b)
 (hQ : ∀ c a w, Q (.panic c) (a.put oi.dst v) w -> Q (.panic c) a w) :
  ∀ (f : Nat) (l : Array Bool) (a : Act) (w : World),
   (∀ j oj, ops[j]? = some oj -> j ≠ i -> l.getD j true = false -> (∀ e ∈ oj.after, Region.binds md e = true -> e.on ≠ i) -> oi.apart ops oj = true) →
   i ∈ Region.ready md ops l -> YieldsIf P ops S oi v a -> S w →
   wpAnyL P md ops Q S L f (l.setIfInBounds i true) (a.put oi.dst v) w -> wpAnyL P md ops Q S L (f + 1) l a w
 | 0, l, a, w, _, hr, hy, hS, H => by
  refine ⟨fun h => (by rw [h] at hr; cases hr), fun j hj => ?_⟩
  by_cases hji : j = i
  ·subst hji
   exact hy.wpOp hi hS ⟨fun _ => hS, H⟩
  ·have := ready_mono hj hji
   rw [H.1] at this
   cases this
 | f + 1, l, a, w, hfree, hr, hy, hS, H => by
  refine ⟨fun h => (by rw [h] at hr; cases hr), fun j hj => ?_⟩
  by_cases hji : j = i
  ·subst hji
   exact hy.wpOp hi hS ⟨fun _ => hS, H⟩
  ·obtain ⟨hjun, oj, hoj, hall⟩ := mem_ready.1 hj
   have hiun : l.getD i true = false := (mem_ready.1 hr).1
   have h1 := H.2 j (ready_mono hj hji)
   have hnot : ∀ e ∈ oj.after, Region.binds md e = true -> e.on ≠ i := fun e he hb heq => by
    have h2 := hall e he hb
    rw [heq] at h2
    rcases Nat.lt_or_ge i l.size with h' | h'
    ·simp [h'] at hiun h2
     rw [hiun] at h2
     cases h2
    ·simp [Array.getElem?_eq_none h'] at h2
   have hjL : j ≠ L := by
    rintro rfl
    rw [hL] at hoj
    cases hoj
   have h2 := wpOp_putIf hoj (hfree j oj hoj hji hjun hnot) (fun cs b => hsel i oi cs b hi) (fun cs b => hsel j oj cs b hoj) hQ hy h1
   refine wpOp_mono (fun a' w' h3 => ?_) h2
   obtain ⟨hy', hS', H'⟩ := h3
   rw [Array.setIfInBounds_comm _ _ (Ne.symm hji)] at H'
   refine ⟨fun _ => hS' hjL, xGN hi hL hsel hQ f _ a' w' (fun k ok hk hki hun hno => hfree k ok hk hki ?_ hno) (ready_mono hr (Ne.symm hji)) hy' (hS' hjL) H'⟩
   by_cases hjk : j = k
   ·subst hjk; exact hjun
   ·rw [getD_set_ne true hjk] at hun; exact hun
theorem xQ9 {v : Value} (hi : ops[i]? = some oi) (hL : ops[L]? = none) (hs : Region.noSelect ops = true) (hf : Region.free md ops l i = true) (hr : (Region.ready md ops l).contains i = true)
 (hQ : ∀ c a w, Q (.panic c) (a.put oi.dst v) w -> Q (.panic c) a w) (hy : YieldsIf P ops S oi v a) (hS : S w)
 (h : wpAnyL P md ops Q S L f (l.setIfInBounds i true) (a.put oi.dst v) w) : wpAnyL P md ops Q S L (f + 1) l a w :=
 xGN hi hL (Region.noSelect_spec hs) hQ f l a w (Region.free_spec hi hf) (by simpa using hr) hy hS h
theorem tL {v : Value} (hi : ops[i]? = some oi) (hL : ops[L]? = some oL) (h4 : (oL.after.any (fun e => Region.binds md e && e.on == i) && Region.noSelect ops && Region.free md ops l i && (Region.ready md ops l).contains i) = true) (hg : Region.wanted oi (yielded ops a.tmps) = true) (hy : ∀ w, S w -> (execOp a.eval oi).run P w = .ok (.value v) w) (hS : S w)
 (h : wpAnyL P md ops (NoPanic Q) S L f (l.setIfInBounds i true) (a.put oi.dst v) w) : wpAnyL P md ops (NoPanic Q) S L (f + 1) l a w := by
 simp only [Bool.and_eq_true] at h4
 exact xQ6 hi hL h4.1.1.1 h4.1.1.2 h4.1.2 h4.2 (fun _ _ _ h => h) (.inl ⟨hg, hy⟩) hS h
theorem tS {v : Value} (hi : ops[i]? = some oi) (hL : ops[L]? = none) (h4 : (Region.noSelect ops && Region.free md ops l i && (Region.ready md ops l).contains i) = true) (hg : Region.wanted oi (yielded ops a.tmps) = true) (hy : ∀ w, S w -> (execOp a.eval oi).run P w = .ok (.value v) w) (hS : S w)
 (h : wpAnyL P md ops (NoPanic Q) S L f (l.setIfInBounds i true) (a.put oi.dst v) w) : wpAnyL P md ops (NoPanic Q) S L (f + 1) l a w := by
 simp only [Bool.and_eq_true] at h4
 exact xQ9 hi hL h4.1.1 h4.1.2 h4.2 (fun _ _ _ h => h) (.inl ⟨hg, hy⟩) hS h
theorem x0W (hr : Region.ready md ops l = []) (h : Q .normal a w) : wpAnyL P md ops Q S L f l a w := by
 cases f with
 | zero => exact ⟨hr, h⟩
 | succ f => exact ⟨fun _ => h, fun j hj => by rw [hr] at hj; cases hj⟩
theorem x01 (hr : Region.ready md ops l = [j]) (ho : ops[j]? = some o) (hw : Region.wanted o (yielded ops a.tmps) = true)
 (h : Oper.wp P o a w (fun a' w' => S w' /\ wpAnyL P md ops Q S L f (l.setIfInBounds j true) a' w') Q) : wpAnyL P md ops Q S L (f + 1) l a w := by
 refine ⟨fun h0 => absurd (hr ▸ h0) (by simp), fun k hk => ?_⟩
 rw [hr] at hk
 obtain rfl := mem_singleton.1 hk
 refine wpOp_step ho (fun K hK => ?_)
 rw [if_pos hw]
 exact Oper.wp_mono (fun a' w' h' => hK a' w' ⟨fun _ => h'.1, h'.2⟩) h
theorem x1Y (hr : Region.ready md ops l = [L]) (ho : ops[L]? = some o) (hw : Region.wanted o (yielded ops a.tmps) = true) (hd : Region.ready md ops (l.setIfInBounds L true) = [])
 (h : Oper.wp P o a w (fun a' w' => Q .normal a' w') Q) : wpAnyL P md ops Q S L (f + 1) l a w := by
 refine ⟨fun h0 => absurd (hr ▸ h0) (by simp), fun k hk => ?_⟩
 rw [hr] at hk
 obtain rfl := mem_singleton.1 hk
 refine wpOp_step ho (fun K hK => ?_)
 rw [if_pos hw]
 refine Oper.wp_mono (fun a' w' h' => hK a' w' ⟨fun hne => absurd rfl hne, ?_⟩) h
 cases f with
 | zero => exact ⟨hd, h'⟩
 | succ f => exact ⟨fun _ => h', fun j hj => by rw [hd] at hj; cases hj⟩
theorem x09 {id : Nat} (S : World -> Prop) (L : Nat) (hm : P.follows .mixedOrders = true) (h : wpAnyL P .any ops (NoPanic Q) S L ops.size (Array.replicate ops.size false) a w.drew) : (Code.region id ops true).wp P Q a w :=
  wp_region_noPanic (wp_region_any hm (xDW _ _ _ _ h))
end
end
section
def Wr (w : World) (base : Nat) (F : LN) (p : OA) (bs : LN) : Prop := (p = none /\ F = [] /\ bs = []) ∨ ∃ g, p = some ⟨g, 0, none⟩ /\ WrAt w base F g bs
def plus (p : OA) (bs news : LN) : LN := if p.isNone then [] else bs ++ news
def WTo (w : World) (base : Nat) (F : LN) (p : OA) (bs : LN) (w' : World) : Prop := ∃ F', Wr w' base F' p bs /\ Only F w w' /\ Fresh w F F'
section
variable {w w' w1 : World} {base : Nat} {F : LN} {p : OA} {bs news : LN}
theorem xBS (p : OA) (bs a b : LN) : plus p (plus p bs a) b = plus p bs (a ++ b) := by
  cases p <;> simp [plus]
theorem xD9 (p : OA) (bs a : LN) : (plus p bs a).length <= bs.length + a.length := by
  cases p <;> simp [plus]
theorem Wr.under (h : Wr w base F p bs) : Under w F := by
 rcases h with ⟨_, rfl, _⟩ | ⟨g, _, h⟩
 ·exact fun k hk => by cases hk
 ·exact h.under
theorem Wr.over (h : Wr w base F p bs) : Over base F := by
 rcases h with ⟨_, rfl, _⟩ | ⟨g, _, h⟩
 ·exact fun k hk => by cases hk
 ·exact h.over
theorem Wr.of (h : Wr w base F p bs) (hk : ∀ k, k ∈ F -> w'.heap[k]? = w.heap[k]?) : Wr w' base F p bs := by
 rcases h with h | ⟨g, hp, h⟩
 ·exact .inl h
 ·exact .inr ⟨g, hp, h.of hk⟩
theorem Wr.below (h : Wr w base F p bs) (hb : Below w.heap.size w w') : Wr w' base F p bs := h.of fun k hk => hb.block k (h.under k hk)
theorem WTo.after {F1 : LN} (ho : Only F w w1) (hf : Fresh w F F1) (h : WTo w1 base F1 p bs w') : WTo w base F p bs w' := by
 obtain ⟨F2, h1, h2, h3⟩ := h
 exact ⟨F2, h1, ho.trans h2 hf, hf.trans h3 ho.size⟩
theorem WTo.since (hb : Below w.heap.size w w1) (h : WTo w1 base F p bs w') : WTo w base F p bs w' := h.after (Only.of_below hb F) (Fresh.refl _ _)
end
theorem x7W (w : World) (base : Nat) (F : LN) (p : OA) (bs news : LN) (B : Nat) (A : OA) (n c : Nat) (h : Wr w base F p bs) (hb : Bytes w B A n news) (hl : bs.length + n <= 10000000) (hB : base <= w.heap.size) :
  Calls prog 101 #[.pointer p, .slice A n c] w fun e w' => e = .returned (.tuple #[]) /\ WTo w base F p (plus p bs news) w' := by
 rcases h with ⟨rfl, rfl, rfl⟩ | ⟨g, rfl, h⟩
 ·exact (xOP _ w).mono fun e w' ⟨he, hw⟩ => ⟨he, [], .inl ⟨rfl, rfl, rfl⟩, by rw [<- hw]; exact Only.refl _ _, Fresh.refl _ _⟩
 ·exact (xOD w base g F bs news B A n c h hb hl hB).mono fun e w' ⟨he, F', h1, h2, h3⟩ => ⟨he, F', .inr ⟨g, rfl, h1⟩, h2, h3⟩
theorem x5V : (prog.info? 186).map (·.size) = some 8 := by kernel_rfl
theorem x1G (w : World) (base : Nat) (F : LN) (p : OA) (bs : LN) (n : Int) (h : Wr w base F p bs) (hl : bs.length <= 9000000) (hB : base <= w.heap.size) :
  Calls prog 56 #[.pointer p, .int .i64 n] w fun e w' => e = .returned (.tuple #[]) /\ WTo w base F p (plus p bs (numB n)) w' := by
 have hz := x3W
 have hi : (prog.info? 186).map (·.size) = some (u8s (numB n)).length := by rw [x0C, x04]; exact x5V
 go_enter func56, ntmps56
 go_wp2_with fail
 refine (xHC n w).mono ?_
 rintro e w1 ⟨rfl, b1⟩
 go_wp2_with (first | (refine x07 rfl 186 (.tmp 4) (.tmp 6) rfl w1.heap.size rfl (u8s (numB n)) _ rfl rfl hi (by rw [x0C, x04]; rfl) (x1W _) ?_))
 have B1 : Below w.heap.size w (w1.alloc (.cells (u8s (numB n)).toArray 186)) := b1.alloc b1.size _
 have hb8 : Bytes (w1.alloc (.cells (u8s (numB n)).toArray 186)) (w1.heap.size + 1) (some ⟨w1.heap.size, 0, none⟩) 8 (numB n) := by
  have := Bytes.new w1 (numB n) 186 (0, 0) (x0Y n)
  rwa [x04] at this
 refine (x7W _ base F p bs (numB n) _ _ 8 8 (h.below B1) hb8 (by omega) (kT hB B1.size)).mono ?_
 rintro e w2 ⟨rfl, h2⟩
 go_wp2
 refine kZ (results_none rfl _ _ _) rfl ?_
 exact ⟨rfl, h2.since B1⟩
theorem xIY (w : World) (base : Nat) (F : LN) (p : OA) (bs : LN) (f : Bool) (h : Wr w base F p bs) (hl : bs.length <= 9000000) (hB : base <= w.heap.size) :
  Calls prog 58 #[.pointer p, .bool f] w fun e w' => e = .returned (.tuple #[]) /\ WTo w base F p (plus p bs [if f then 1 else 0]) w' := by
 cases f with
 | true =>
  go_enter func58, ntmps58
  go_wp2_with fail
  have B1 := x0D w (.cells (u8s [1]).toArray 5)
  refine (x7W _ base F p bs [1] _ _ 1 1 (h.below B1) (Bytes.new w [1] 5 (0, 0) (by simp)) (by omega) (kT hB B1.size)).mono ?_
  rintro e w2 ⟨rfl, h2⟩
  go_wp2
  refine kZ (results_none rfl _ _ _) rfl ?_
  exact ⟨rfl, h2.since B1⟩
 | false =>
  go_enter func58, ntmps58
  go_wp2_with fail
  have B1 := x0D w (.cells (u8s [0]).toArray 5)
  refine (x7W _ base F p bs [0] _ _ 1 1 (h.below B1) (Bytes.new w [0] 5 (0, 0) (by simp)) (by omega) (kT hB B1.size)).mono ?_
  rintro e w2 ⟨rfl, h2⟩
  go_wp2
  refine kZ (results_none rfl _ _ _) rfl ?_
  exact ⟨rfl, h2.since B1⟩
theorem Bytes.only {F : LN} (h : Bytes w B A n bs) (ho : Only F w w') (ha : ∀ a, A = some a -> 0 < n -> a.block ∉ F) : Bytes w' B A n bs :=
 ⟨⟨h.1.1, fun hn => by
  obtain ⟨ad, e, hB, hc⟩ := h.1.2 hn
  exact ⟨ad, e, hB, fun j u hu => (ho.cell (World.block_lt_of_cell? w _ (hc j u hu)) (by rw [x0K]; exact ha ad e hn)).trans (hc j u hu)⟩⟩, h.2⟩
theorem x2L (bs : LN) : (strOf bs).size = bs.length := by simp [strOf, strOfNums_size]
theorem xO4 (w : World) (bs : LN) (hb : ∀ b ∈ bs, b < 256) : ∃ cap w', (convert 9 35 (.string (strOf bs))).run prog w = .ok (.slice (some ⟨w.heap.size, 0, none⟩) bs.length cap) w' /\ Below w.heap.size w w' /\ Bytes w' (w.heap.size + 1) (some ⟨w.heap.size, 0, none⟩) bs.length bs := by
 have h := Lib.run_convert_string_bytes (P := prog) w 9 35 5 (strOf bs) underlying9 underlying35 underlying5
 rw [x2L] at h
 refine ⟨_, _, h, ⟨rfl, rfl, rfl, by rw [Lib.bytesWorld_size]; omega, fun i hi => Lib.bytesWorld_at_old _ _ _ _ hi⟩, ⟨⟨by simp [u8s], fun hn => ⟨_, rfl, Nat.lt_succ_self _, fun j u hu => ?_⟩⟩, hb⟩⟩
 have hj : j < bs.length := by
  rcases Nat.lt_or_ge j bs.length with h' | h'
  ·exact h'
  ·rw [List.getElem?_eq_none (by rw [x0C]; exact h')] at hu; cases hu
 rw [x19, Lib.bytesWorld_cell _ _ _ _ (by rw [x2L]; exact hj), <- hu]
 have hbj := hb _ (List.getElem_mem hj)
 simp [strOf, strOfNums_data, u8s, u8, hj]
 omega
theorem xF2 {rest : List Oper} (hg : o.guard = none) (x : Operand) (ho : o.op = .convert 9 35 x) (bs : LN) (hx : a.eval x = .string (strOf bs)) (hb : ∀ b ∈ bs, b < 256)
  (h : ∀ cap w', Below w.heap.size w w' -> Bytes w' (w.heap.size + 1) (some ⟨w.heap.size, 0, none⟩) bs.length bs -> wpList prog ops Q rest (a.put o.dst (.slice (some ⟨w.heap.size, 0, none⟩) bs.length cap)) w') : wpList prog ops Q (o :: rest) a w := by
 obtain ⟨cap, w', hr, h1, h2⟩ := xO4 w bs hb
 refine wpList_plain hg fun _ hK => x0A (w' := w') ?_ (hK _ _ (h cap w' h1 h2))
 simp [execOp, ho, hx, hr, Result.andThen]
theorem xCK (w : World) (base : Nat) (F : LN) (p : OA) (bs news : LN) (B : Nat) (A : OA) (n c : Nat) (h : Wr w base F p bs) (hb : Bytes w B A n news) (hlt : ∀ a, A = some a -> 0 < n -> a.block ∉ F) (hl : bs.length + n <= 8000000) (hB : base <= w.heap.size) :
  Calls prog 153 #[.pointer p, .slice A n c] w fun e w' => e = .returned (.tuple #[]) /\ WTo w base F p (plus p bs (numB n ++ news)) w' := by
 go_enter func153, ntmps153
 go_wp2_with fail
 refine (x1G w base F p bs n h (by omega) hB).mono ?_
 rintro e w1 ⟨rfl, F1, h1, o1, f1⟩
 go_wp2_with fail
 have := xD9 p bs (numB n)
 rw [x04] at this
 have hb1 := hb.only o1 hlt
 refine (x7W w1 base F1 p (plus p bs (numB n)) news B A n c h1 hb1 (by omega) (kT hB o1.size)).mono ?_
 rintro e w2 ⟨rfl, h2⟩
 rw [xBS] at h2
 go_wp2
 refine kZ (results_none rfl _ _ _) rfl ?_
 exact ⟨rfl, h2.after o1 f1⟩
theorem xFC (w : World) (base : Nat) (F : LN) (p : OA) (bs news : LN) (h : Wr w base F p bs) (hb : ∀ b ∈ news, b < 256) (hl : bs.length + news.length <= 8000000) (hB : base <= w.heap.size) :
    Calls prog 152 #[.pointer p, .string (strOf news)] w fun e w' => e = .returned (.tuple #[]) /\ WTo w base F p (plus p bs (numB news.length ++ news)) w' := by
  have hs := x2L news
  go_enter func152, ntmps152
  go_wp2_with fail
  refine (x1G w base F p bs news.length h (by omega) hB).mono ?_
  rintro e w1 ⟨rfl, F1, h1, o1, f1⟩
  go_wp2_with (refine xF2 rfl (.tmp 9) rfl news rfl hb ?_
               intro cap wc bc hbc)
  have := xD9 p bs (numB news.length)
  rw [x04] at this
  refine (x7W wc base F1 p (plus p bs (numB news.length)) news _ _ _ cap (h1.below bc) hbc (by omega) (kT hB (kT o1.size bc.size))).mono ?_
  rintro e w2 ⟨rfl, h2⟩
  rw [xBS] at h2
  go_wp2
  refine kZ (results_none rfl _ _ _) rfl ?_
  exact ⟨rfl, (h2.since bc).after o1 f1⟩
theorem x5J (w : World) (base : Nat) (F : LN) (p : OA) (bs news : LN) (B : Nat) (A : OA) (n c : Nat) (h : Wr w base F p bs) (hb : Bytes w B A n news) (hlt : ∀ a, A = some a -> 0 < n -> a.block ∉ F) (hl : bs.length + n <= 8000000) (hB : base <= w.heap.size) :
  Calls prog 103 #[.pointer p, .slice A n c] w fun e w' => e = .returned (.tuple #[]) /\ WTo w base F p (plus p bs (numB n ++ news)) w' := by
 go_enter func103, ntmps103
 go_wp2_with fail
 refine (xCK w base F p bs news B A n c h hb hlt hl hB).mono ?_
 rintro e w2 ⟨rfl, h2⟩
 go_wp2
 refine kZ (results_none rfl _ _ _) rfl ?_
 exact ⟨rfl, h2⟩
theorem x7J (w : World) (base : Nat) (F : LN) (p : OA) (bs news : LN) (h : Wr w base F p bs) (hb : ∀ b ∈ news, b < 256) (hl : bs.length + news.length <= 8000000) (hB : base <= w.heap.size) :
  Calls prog 102 #[.pointer p, .string (strOf news)] w fun e w' => e = .returned (.tuple #[]) /\ WTo w base F p (plus p bs (numB news.length ++ news)) w' := by
 go_enter func102, ntmps102
 go_wp2_with fail
 refine (xFC w base F p bs news h hb hl hB).mono ?_
 rintro e w2 ⟨rfl, h2⟩
 go_wp2
 refine kZ (results_none rfl _ _ _) rfl ?_
 exact ⟨rfl, h2⟩
theorem x58 (w : World) (base : Nat) (F : LN) (p : OA) (bs : LN) (h : Wr w base F p bs) (hl : bs.length <= 9000000) :
  Calls prog 60 #[.pointer p] w fun e w' => ∃ v, e = .returned v /\ Own w' w.heap.size v bs.length bs /\ Below w.heap.size w w' := by
 rcases h with ⟨rfl, rfl, rfl⟩ | ⟨g, rfl, v, rfl, h1, h2, h3, h4⟩
 ·go_enter func60, ntmps60
  go_wp2
  go_ret
  exact ⟨_, rfl, Own.nil _ _, kB _ _⟩
 ·obtain ⟨A1, c1, rfl, -, -, -⟩ := h2.form
  have hc : w.cell? ⟨g, 0, none⟩ = some (.slice A1 bs.length c1) := by rw [h1.cell]; rfl
  go_enter func60, ntmps60
  go_wp2_with fail
  refine (x0Q A1 bs.length c1 bs w w.heap.size (by omega) (h2.bytes h4)).mono ?_
  rintro e w' ⟨v, rfl, h5, h6⟩
  go_wp2
  go_ret
  exact ⟨v, rfl, h5, h6⟩
end
section
def RdAt (w : World) (base : Nat) (F : LN) (g : Nat) (s : RD) : Prop :=
  ∃ A c, F = g :: (A.map Addr.block).toList /\ Blk w g 259 #[.slice A s.bs.length c, .bool s.bad] /\ Bytes w w.heap.size A s.bs.length s.bs /\ s.bs.length <= c /\ c <= maxLen /\ base <= g /\ (∀ a, A = some a -> base <= a.block /\ a.block < w.heap.size /\ a.block ≠ g) /\ s.Good
def Rd (w : World) (base : Nat) (F : LN) (p : OA) (s : RD) : Prop := (p = none /\ F = [] /\ s = RD.spoilt) ∨ ∃ g, p = some ⟨g, 0, none⟩ /\ RdAt w base F g s
def RTo (w : World) (base : Nat) (F : LN) (p : OA) (s : RD) (w' : World) : Prop := ∃ F', Rd w' base F' p s /\ Only F w w' /\ Fresh w F F'
section
variable {w w' w1 : World} {base g : Nat} {F : LN} {p : OA} {s : RD}
theorem RdAt.of (h : RdAt w base F g s) (hs : w.heap.size <= w'.heap.size) (hk : ∀ k, k ∈ F -> w'.heap[k]? = w.heap[k]?) : RdAt w' base F g s := by
 obtain ⟨A, c, rfl, h1, h2, h3, h4, h5, h6, h7⟩ := h
 refine ⟨A, c, rfl, h1.of (hk g (by simp)), ⟨⟨h2.1.1, fun hn => ?_⟩, h2.2⟩, h3, h4, h5, fun a ha => ⟨(h6 a ha).1, kL (h6 a ha).2.1 hs, (h6 a ha).2.2⟩, h7⟩
 obtain ⟨ad, e, hB, hc⟩ := h2.1.2 hn
 exact ⟨ad, e, kL hB hs, fun j u hu => (World.cell?_of_block (hk _ (by rw [x0K, e]; simp))).trans (hc j u hu)⟩
theorem RdAt.under (h : RdAt w base F g s) : Under w F := by
 obtain ⟨A, c, rfl, h1, h2, h3, h4, h5, h6, h7⟩ := h
 intro k hk
 rcases kQ hk with rfl | hk
 ·exact h1.lt
 ·cases A with
  | none => cases hk
  | some a => simp at hk; subst hk; exact (h6 a rfl).2.1
theorem RdAt.over (h : RdAt w base F g s) : Over base F := by
 obtain ⟨A, c, rfl, h1, h2, h3, h4, h5, h6, h7⟩ := h
 intro k hk
 rcases kQ hk with rfl | hk
 ·exact h5
 ·cases A with
  | none => cases hk
  | some a => simp at hk; subst hk; exact (h6 a rfl).1
theorem Rd.under (h : Rd w base F p s) : Under w F := by
 rcases h with ⟨_, rfl, _⟩ | ⟨g, _, h⟩
 ·exact fun k hk => by cases hk
 ·exact h.under
theorem Rd.over (h : Rd w base F p s) : Over base F := by
 rcases h with ⟨_, rfl, _⟩ | ⟨g, _, h⟩
 ·exact fun k hk => by cases hk
 ·exact h.over
theorem Rd.of (h : Rd w base F p s) (hs : w.heap.size <= w'.heap.size) (hk : ∀ k, k ∈ F -> w'.heap[k]? = w.heap[k]?) : Rd w' base F p s := by
 rcases h with h | ⟨g, hp, h⟩
 ·exact .inl h
 ·exact .inr ⟨g, hp, h.of hs hk⟩
theorem Rd.below (h : Rd w base F p s) (hb : Below w.heap.size w w') : Rd w' base F p s := h.of hb.size fun k hk => hb.block k (h.under k hk)
theorem Rd.good (h : Rd w base F p s) : s.Good := by
 rcases h with ⟨_, _, rfl⟩ | ⟨g, _, A, c, _, _, _, _, _, _, _, h⟩
 ·exact RD.spoilt_good
 ·exact h
theorem RTo.after {F1 : LN} (ho : Only F w w1) (hf : Fresh w F F1) (h : RTo w1 base F1 p s w') : RTo w base F p s w' := by
 obtain ⟨F2, h1, h2, h3⟩ := h
 exact ⟨F2, h1, ho.trans h2 hf, hf.trans h3 ho.size⟩
theorem RTo.stay (h : Rd w base F p s) : RTo w base F p s w := ⟨F, h, Only.refl _ _, Fresh.refl _ _⟩
theorem RTo.then_ (h : RTo w base F p s w1) (hb : Below w1.heap.size w1 w') : RTo w base F p s w' := by
 obtain ⟨F2, h1, h2, h3⟩ := h
 exact ⟨F2, h1.below hb, h2.trans (Only.of_below hb F2) h3, h3⟩
end
theorem x5S (w : World) (base : Nat) (F : LN) (p : OA) (s : RD) (h : Rd w base F p s) :
  Calls prog 220 #[.pointer p] w fun e w' => e = .returned (.int .i64 s.bs.length) /\ w = w' := by
 rcases h with ⟨rfl, rfl, rfl⟩ | ⟨g, rfl, A, c, rfl, h1, h2, h3, h4, h5, h6, h7⟩
 ·go_enter func220, ntmps220
  go_wp2
  go_ret
  exact ⟨rfl, rfl⟩
 ·have hc : w.cell? ⟨g, 0, none⟩ = some (.slice A s.bs.length c) := by rw [h1.cell]; rfl
  go_enter func220, ntmps220
  go_wp2
  go_ret
  exact ⟨rfl, rfl⟩
theorem xFW (w : World) : (zeroValue 259).run prog w = .ok (.agg #[.slice none 0 0, .bool false]) w := by kernel_rfl
theorem xC5 (w : World) (base : Nat) (F : LN) (p : OA) (s : RD) (h : Rd w base F p s) :
  Calls prog 185 #[.pointer p] w fun e w' => e = .returned (.tuple #[]) /\ RTo w base F p RD.spoilt w' := by
 rcases h with ⟨rfl, rfl, rfl⟩ | ⟨g, rfl, A, c, rfl, h1, h2, h3, h4, h5, h6, h7⟩
 ·go_enter func185, ntmps185
  go_wp2
  refine kZ (results_none rfl _ _ _) rfl ?_
  exact ⟨rfl, RTo.stay (.inl ⟨rfl, rfl, rfl⟩)⟩
 ·have hc0 : w.cell? ⟨g, 0, none⟩ = some (.slice A s.bs.length c) := by rw [h1.cell]; rfl
  have hc1 : w.cell? ⟨g, 1, none⟩ = some (.bool s.bad) := by rw [h1.cell]; rfl
  have hf0 : w.frozen? ⟨g, 0, none⟩ = false := h1.frozen _
  have hf1 : w.frozen? ⟨g, 1, none⟩ = false := h1.frozen _
  have hz := xFW
  go_enter func185, ntmps185
  go_wp2
  refine kZ (results_none rfl _ _ _) rfl ?_
  have hb2 : Blk ((w.setCell ⟨g, 0, none⟩ (.slice none 0 0)).setCell ⟨g, 1, none⟩ (.bool true)) g 259 #[.slice none 0 0, .bool true] := (h1.set_ 0 _).set_ 1 _
  exact ⟨rfl, [g], .inr ⟨g, rfl, none, 0, rfl, hb2, ⟨Reads.none_, fun b hb => by cases hb⟩, kR _, by simp [maxLen], h5, fun a ha => (by cases ha), RD.spoilt_good⟩,
   ((Only.refl _ _).setCell (.inl (by simp)) _).setCell (.inl (by simp)) _, fun k hk => .inl (by simp at hk; subst hk; simp)⟩
theorem x9H (A : OA) (k cap : Nat) (a : Addr) (h : (if cap = k then A else A.map (·.add k)) = some a) : ∃ a', A = some a' /\ a'.block = a.block := by
 split at h
 ·exact ⟨a, h, rfl⟩
 ·cases A with
  | none => cases h
  | some a' => simp at h; exact ⟨a', rfl, by rw [<- h, x0K]⟩
theorem RD.take_fit {s : RD} (hb : s.bad = false) (hk : k <= s.bs.length) : s.take k = ⟨s.bs.drop k, false⟩ /\ s.got k = s.bs.take k := by
 have : s.fits k = true := by simp [RD.fits, hb]; omega
 simp [RD.take, RD.got, this]
theorem RD.take_un {s : RD} {n : Int} (h : n < 0 ∨ (s.bs.length : Int) < n ∨ s.bad = true) : s.take n = RD.spoilt /\ s.got n = [] := by
 have : s.fits n = false := by
  simp only [RD.fits, Bool.and_eq_false_iff, Bool.not_eq_false', decide_eq_false_iff_not]
  rcases h with h | h | h
  ·exact .inl (.inr (by omega))
  ·exact .inr (by omega)
  ·exact .inl (.inl h)
 simp [RD.take, RD.got, this]
theorem RD.eta {s : RD} (h : s.Good) (hb : s.bad = true) : s = RD.spoilt := by
 obtain ⟨bs, bad⟩ := s
 have := h.1 hb
 simp at hb this
 subst hb this
 rfl
theorem xKD (w : World) (base g k : Nat) (A : OA) (c : Nat) (s : RD) (h1 : Blk w g 259 #[.slice A s.bs.length c, .bool s.bad]) (h2 : Bytes w w.heap.size A s.bs.length s.bs) (h3 : s.bs.length <= c) (h4 : c <= maxLen) (h5 : base <= g) (h6 : ∀ a, A = some a -> base <= a.block /\ a.block < w.heap.size /\ a.block ≠ g) (h7 : s.Good) (hk : k <= s.bs.length) (hbad : s.bad = false) :
    RTo w base (g :: (A.map Addr.block).toList) (some ⟨g, 0, none⟩) ⟨s.bs.drop k, false⟩ (w.setCell ⟨g, 0, none⟩ (.slice (if c = k then A else A.map (·.add k)) (s.bs.length - k) (c - k))) ∧
    Bytes (w.setCell ⟨g, 0, none⟩ (.slice (if c = k then A else A.map (·.add k)) (s.bs.length - k) (c - k))) w.heap.size A k (s.bs.take k) := by
  have hset : ∀ (B n : Nat) (A' : OA) (bs : LN) (v : Value), Bytes w B A' n bs -> (∀ a, A' = some a -> a.block ≠ g) -> Bytes (w.setCell ⟨g, 0, none⟩ v) B A' n bs := fun B n A' bs v h hne =>
    ⟨⟨h.1.1, fun hn => by
      obtain ⟨ad, e, hB, hc⟩ := h.1.2 hn
      exact ⟨ad, e, hB, fun j u hu => (World.cell?_setCell_other _ _ _ _ (fun e' => hne ad e (by have := congrArg Addr.block e'; rw [x0K] at this; exact this.symm))).trans (hc j u hu)⟩⟩, h.2⟩
  have hcut : Bytes w w.heap.size (if c = k then A else A.map (·.add k)) (s.bs.length - k) (s.bs.drop k) := by
    have := h2.1.cut hk h3
    rw [Nat.mul_one, u8s, <- map_drop] at this
    exact ⟨this, fun b hb => h2.2 b (mem_of_mem_drop hb)⟩
  refine ⟨⟨g :: ((if c = k then A else A.map (·.add k)).map Addr.block).toList, .inr ⟨g, rfl, _, c - k, rfl, ?_, ?_, ?_, by omega, h5, fun a ha => ?_, ?_⟩, (Only.refl _ _).setCell (.inl (by simp)) _, fun j hj => .inl ?_⟩, hset _ _ _ _ _ (h2.take hk) (fun a ha => (h6 a ha).2.2)⟩
  · have := h1.set_ 0 (.slice (if c = k then A else A.map (·.add k)) (s.bs.length - k) (c - k))
    rw [hbad] at this
    simpa using this
  · have := hset _ _ _ _ (.slice (if c = k then A else A.map (·.add k)) (s.bs.length - k) (c - k)) hcut (fun a ha => by
      obtain ⟨a', h, hb⟩ := x9H A k c a ha
      rw [<- hb]
      exact (h6 a' h).2.2)
    simp only [length_drop]
    exact this.more (by simp [World.setCell])
  · simp only [length_drop]; omega
  · obtain ⟨a', h, hb⟩ := x9H A k c a ha
    rw [<- hb]
    have := h6 a' h
    exact ⟨this.1, by simpa [World.setCell] using this.2.1, this.2.2⟩
  · exact ⟨fun e => (by cases e), fun b hb => h7.2 b (mem_of_mem_drop hb)⟩
  · rcases kQ hj with rfl | hj
    · simp
    · refine kM _ ?_
      simp only [Option.mem_toList, Option.mem_def, Option.map_eq_some_iff] at hj ⊢
      obtain ⟨a, ha, rfl⟩ := hj
      obtain ⟨a', h, hb⟩ := x9H A k c a ha
      exact ⟨a', h, hb⟩
theorem x69 (w : World) (base : Nat) (F : LN) (p : OA) (s : RD) (n : Int) (h : Rd w base F p s) (hn1 : -9223372036854775808 <= n) (hn2 : n <= 9223372036854775807) :
  Calls prog 182 #[.pointer p, .int .i64 n] w fun e w' => ∃ A c, e = .returned (.slice A (s.got n).length c) /\ RTo w base F p (s.take n) w' /\ (∃ B, Bytes w' B A (s.got n).length (s.got n)) /\ (∀ a, A = some a -> a.block ∈ F) /\ (A = none -> (s.got n).length = 0) := by
 by_cases h0 : n < 0
 ·obtain ⟨e1, e2⟩ := RD.take_un (s := s) (.inl h0)
  rw [e1, e2]
  have hd : decide (n < 0) = true := by simpa using h0
  go_enter func182, ntmps182
  go_wp2_with fail
  refine (xC5 w base F p s h).mono ?_
  rintro e w1 ⟨rfl, r1⟩
  go_wp2
  go_ret
  exact ⟨none, 0, rfl, r1, ⟨0, Reads.none_, fun b hb => by cases hb⟩, fun a ha => (by cases ha), by simp⟩
 ·have hd : decide (n < 0) = false := by simpa using h0
  by_cases hl : (s.bs.length : Int) < n
  ·obtain ⟨e1, e2⟩ := RD.take_un (s := s) (n := n) (.inr (.inl hl))
   rw [e1, e2]
   have hd2 : decide ((s.bs.length : Int) < n) = true := by simpa using hl
   go_enter func182, ntmps182
   go_wp2_with fail
   refine (x5S w base F p s h).mono ?_
   rintro e w1 ⟨rfl, rfl⟩
   go_wp2_with fail
   refine (xC5 w base F p s h).mono ?_
   rintro e w1 ⟨rfl, r1⟩
   go_wp2
   go_ret
   exact ⟨none, 0, rfl, r1, ⟨0, Reads.none_, fun b hb => by cases hb⟩, fun a ha => (by cases ha), by simp⟩
  ·have hd2 : decide ((s.bs.length : Int) < n) = false := by simpa using hl
   obtain ⟨k, rfl⟩ := Int.eq_ofNat_of_zero_le (show 0 <= n by omega)
   by_cases hk0 : k = 0
   ·subst hk0
    have hd3 : (((0 : Nat) : Int) == 0) = true := rfl
    have e1 : s.take ((0 : Nat) : Int) = s /\ s.got ((0 : Nat) : Int) = [] := by
     cases hb : s.bad with
     | true => rw [RD.eta h.good hb]; exact ⟨rfl, rfl⟩
     | false =>
      obtain ⟨e1, e2⟩ := RD.take_fit (k := 0) hb (kY _)
      rw [e1, e2]
      obtain ⟨bs, bad⟩ := s
      simp at hb
      subst hb
      exact ⟨rfl, rfl⟩
    rw [e1.1, e1.2]
    go_enter func182, ntmps182
    go_wp2_with fail
    refine (x5S w base F p s h).mono ?_
    rintro e w1 ⟨rfl, rfl⟩
    go_wp2
    go_ret
    exact ⟨none, 0, rfl, RTo.stay h, ⟨0, Reads.none_, fun b hb => by cases hb⟩, fun a ha => (by cases ha), by simp⟩
   ·have hd3 : ((k : Int) == 0) = false := by simp; omega
    have hkl : k <= s.bs.length := by omega
    have hbad : s.bad = false := by
     cases hb : s.bad with
     | false => rfl
     | true => have := h.good.1 hb; rw [this] at hkl; simp at hkl; omega
    obtain ⟨e1, e2⟩ := RD.take_fit hbad hkl
    rw [e1, e2]
    have hlc := x5S w base F p s h
    rcases h with ⟨rfl, rfl, rfl⟩ | ⟨g, rfl, A, c, rfl, h1, h2, h3, h4, h5, h6, h7⟩
    ·simp [RD.spoilt] at hkl; omega
    ·have hc0 : w.cell? ⟨g, 0, none⟩ = some (.slice A s.bs.length c) := by rw [h1.cell]; rfl
     have hf0 : w.frozen? ⟨g, 0, none⟩ = false := h1.frozen _
     unfold maxLen at h4
     have q1 : (0 : Int) <= (k : Int) := by omega
     have q2 : (k : Int) <= (c : Int) := by omega
     have q3 : (k : Int) <= (s.bs.length : Int) := by omega
     have hkc : k <= c := by omega
     go_enter func182, ntmps182
     go_wp2_with fail
     refine hlc.mono ?_
     rintro e w1 ⟨he, hw⟩
     subst hw
     subst he
     have hdone := xKD w base g k A c s h1 h2 h3 h4 h5 h6 h7 hkl hbad
     have hlen : (s.bs.take k).length = k := by rw [length_take]; omega
     have hAF : ∀ a, A = some a -> a.block ∈ g :: (A.map Addr.block).toList := fun a ha => by subst ha; simp
     have hAn : A = none -> (s.bs.take k).length = 0 := fun ha => by
      subst ha
      obtain ⟨_, h, _⟩ := h2.1.2 (by omega)
      cases h
     have HD := kH hdone
     have HAF := kH hAF
     have HAn := kH hAn
     clear hdone hAF hAn
     by_cases hck : c = k
     ·have hHD := HD.out
      rw [if_pos hck] at hHD
      have HD2 := kH hHD
      clear hHD HD
      subst hck
      go_wp2
      go_ret
      rw [hlen]
      have := HD2.out
      rw [Nat.sub_self, show s.bs.length - c = 0 by omega] at this
      exact ⟨A, _, rfl, this.1, ⟨_, this.2⟩, HAF.out, by rw [<- hlen]; exact HAn.out⟩
     ·have hHD := HD.out
      rw [if_neg hck] at hHD
      have HD2 := kH hHD
      clear hHD HD
      go_wp2
      go_ret
      rw [hlen]
      exact ⟨A, _, rfl, HD2.out.1, ⟨_, HD2.out.2⟩, HAF.out, by rw [<- hlen]; exact HAn.out⟩
end
theorem x3S : (prog.info? 5).map (·.size) = some 1 := by kernel_rfl
theorem x7L (x y : Operand) (ho : o.op = .call {callee := .builtin .copy, args := #[x, y], argTypes := #[35, 35] })
 (gb m : Nat) (t : TypeId) (cur : List Value) (hg : Blk w gb t cur.toArray) (hcur : cur.length = m) (hx : a.eval x = .slice (some ⟨gb, 0, none⟩) m m) (A : OA) (k c B : Nat) (bs : LN) (hy : a.eval y = .slice A k c) (hb : Bytes w B A k bs) (hk : k = m ∨ k = 0) (hm : 0 < m)
 (h : ∀ w', Blk w' gb t (if k = 0 then cur else u8s bs).toArray -> Only [gb] w w' -> K (a.put o.dst (goInt k)) w') : o.wp prog a w K Q := by
 rcases hk with rfl | rfl
 ·obtain ⟨ad, rfl, hB, hc⟩ := hb.1.2 hm
  have hl : (u8s bs).length = k := by rw [x0C, hb.len]
  have hrun := run_copy_row (P := prog) w 35 35 o.type 5 gb 0 k k ad k c cur.toArray t (u8s bs) underlying35 x3S hg (by rw [hl]; exact (Nat.min_self k).symm) hc (by simp [hl, hcur]) (x1W _)
  unfold Oper.wp
  simp [execOp, ho, resolve, invoke, builtin, hx, hy, hrun, Result.andThen]
  rw [hl]
  refine h _ ?_ ?_
  ·rw [if_neg (by omega)]
   have := setRow_heap w gb cur.toArray (u8s bs).toArray t (0, 0) hg
   have e : (u8s bs ++ List.drop k cur).toArray = (u8s bs).toArray := by rw [drop_of_length_le (by omega), append_nil]
   unfold Blk
   simpa [e, hl, hcur, drop_of_length_le (show cur.length <= k by omega)] using this
  ·exact ⟨rfl, rfl, rfl, by simp [World.setRow], fun j hj hn => setRow_other w gb j _ (fun e => hn (by simp [e]))⟩
 ·have hrun := run_copy_none (P := prog) w 35 35 o.type 5 (some ⟨gb, 0, none⟩) A m m 0 c underlying35 x3S (Nat.zero_min m)
  unfold Oper.wp
  simp [execOp, ho, resolve, invoke, builtin, hx, hy, hrun, Result.andThen]
  exact h w (by simpa using hg) (Only.refl _ _)
theorem xAL (s : RD) (k : Nat) : (s.got k).length = k ∨ (s.got k).length = 0 := by
 unfold RD.got
 split
 ·rename_i h
  simp [RD.fits] at h
  left
  rw [length_take]
  omega
 ·exact .inr rfl
theorem xCG (l : LN) (hl : l.length = 8) (hb : ∀ b ∈ l, b < 256) (w : World) :
  Calls prog 183 #[.agg (u8s l).toArray] w fun e w' => e = .returned (.int .i64 (numOf l)) /\ Below w.heap.size w w' := by
 match l, hl with
 | [b0, b1, b2, b3, b4, b5, b6, b7], _ => exact x7I b0 b1 b2 b3 b4 b5 b6 b7 w (hb _ (by simp)) (hb _ (by simp)) (hb _ (by simp)) (hb _ (by simp)) (hb _ (by simp)) (hb _ (by simp)) (hb _ (by simp)) (hb _ (by simp))
def padded (m : Nat) (l : LN) : LN := if l.length = 0 then List.replicate m 0 else l
theorem xDK (l : LN) : numOf (padded 8 l) = numOf l := by
 unfold padded
 split
 ·rename_i h
  obtain rfl := eq_nil_of_length_eq_zero h
  simp [numOf, un, List.replicate]
 ·rfl
theorem x25 (w : World) (base : Nat) (F : LN) (p : OA) (s : RD) (h : Rd w base F p s) (hB : base <= w.heap.size) :
  Calls prog 121 #[.pointer p] w fun e w' => e = .returned (.int .i64 s.num) /\ RTo w base F p (s.take 8) w' := by
 obtain ⟨Zs, hz, hZs⟩ : ∃ Zs : List Value, (∀ w, (zeroValue 186).run prog w = .ok (.agg Zs.toArray) w) /\ Zs = u8s (List.replicate 8 0) := ⟨_, x3W, rfl⟩
 have hzl : Zs.length = 8 := by rw [hZs, x0C]; rfl
 have HZ := kH hZs
 clear hZs
 have B0 := kH (Blk.new w 186 Zs.toArray)
 have b0 := x0D w (.cells Zs.toArray 186)
 have H0 := kH (h.below b0)
 have hgw : w.heap.size ∉ F := fun hm => by have := h.under _ hm; omega
 have b0' := kH b0
 clear h b0
 go_enter func121, ntmps121
 go_wp2_with fail
 have hBw : base <= (w.alloc (.cells Zs.toArray 186)).heap.size := kT hB b0'.out.size
 generalize w.alloc (.cells Zs.toArray 186) = w0 at *
 generalize hgb : w.heap.size = gb at *
 refine x2G (by kernel_rfl) ?_
 refine wpAny_take (i := 0) (v := .slice (some ⟨gb, 0, none⟩) 8 8) rfl (by kernel_rfl) (by kernel_rfl) (by kernel_rfl) (fun _ _ _ h => h) (Or.inl ⟨by rfl, fun w => by go_simp⟩) ?_
 simp only [nH, pu, nB, nC, nD]
 refine wpAny_take (i := 1) (v := .pointer p) rfl (by kernel_rfl) (by kernel_rfl) (by kernel_rfl) (fun _ _ _ h => h) (Or.inl ⟨by rfl, fun w => by kernel_rfl⟩) ?_
 simp only [nH, pu, nB, nC, nD]
 refine x1M (i := 2) (by kernel_rfl) rfl (by rfl) ?_
 simp only [nH, pu, nB, nC, nD]
 refine x03 (by kernel_rfl) (x69 w0.drew base F p s 8 (H0.out.of (kR _) (fun _ _ => rfl)) (by omega) (by omega)) ?_
 rintro e w1 ⟨A, c, rfl, ⟨F1, r1, o1, f1⟩, ⟨B, hb⟩, -, -⟩
 refine ⟨_, rfl, ?_⟩
 simp only [nH, pu, nB, nC, nD]
 have B1 : Blk w1 gb 186 Zs.toArray := B0.out.of (o1.block gb B0.out.lt hgw)
 refine x1M (i := 3) (by kernel_rfl) rfl (by rfl) ?_
 simp only [nH, pu, nB, nC, nD]
 refine x7L (.tmp 4) (.tmp 6) rfl gb 8 186 Zs B1 hzl (by rfl) A _ c B _ (by rfl) hb (xAL s 8) (by omega) ?_
 intro w2 B2 o2
 simp only [nH, pu, nB, nC, nD]
 refine wpAny_done (by kernel_rfl) ?_ _
 refine NoPanic.normal ?_
 have hpad : (if (s.got 8).length = 0 then Zs else u8s (s.got 8)) = u8s (padded 8 (s.got 8)) := by
  unfold padded
  rw [HZ.out]
  split
  ·rfl
  ·rfl
 rw [hpad] at B2
 have hgood := (H0.out.good)
 have hpl : (padded 8 (s.got 8)).length = 8 := by
  unfold padded
  split
  ·simp
  ·exact (xAL s 8).resolve_right (by assumption)
 have hpb : ∀ b ∈ padded 8 (s.got 8), b < 256 := by
  unfold padded
  split
  ·intro b hb; obtain ⟨_, rfl⟩ := mem_replicate.1 hb; omega
  ·exact RD.got_lt hgood 8
 have R2 : RTo w base F p (s.take 8) w2 := by
  have hf : Fresh w F F1 := fun k hk => (f1 k hk).imp id (fun h => kT (show w.heap.size <= w0.drew.heap.size from b0'.out.size) h)
  refine ⟨F1, r1.of o2.size (fun k hk => o2.block k (r1.under k hk) (fun hm => ?_)), ((Only.of_below (w' := w0.drew) (by rw [hgb]; exact b0'.out.drew) F).trans (F' := F) o1 (Fresh.refl _ _)).trans o2 (fun k hk => .inr (by simp at hk; omega)), hf⟩
  simp at hm
  subst hm
  rcases f1 _ hk with h | h
  ·exact hgw h
  ·have : k < w0.heap.size := B0.out.lt
   have h' : w0.heap.size <= k := h
   omega
 have HR := kH R2
 have H2 := kH B2
 have hrg : w2.rangeAt gb 0 (u8s (padded 8 (s.got 8))) := B2.range
 have hi : (prog.info? 186).map (·.size) = some (u8s (padded 8 (s.got 8))).length := by rw [x0C, hpl]; exact x5V
 have hu := underlying186
 have HP := kH (kA hpl hpb)
 clear hpad hpl hpb R2 B2 o2 hb B1 r1 o1 f1 hgood
 go_wp2_with (refine wpList_load_mid rfl 186 (.tmp 3) rfl gb 0 rfl (u8s (padded 8 (s.got 8))) _ hrg hu rfl hi ?_)
 refine (xCG _ HP.out.1 HP.out.2 w2).mono ?_
 rintro e w3 ⟨rfl, b3⟩
 rw [xDK]
 go_wp2
 go_ret
 exact ⟨rfl, HR.out.then_ b3⟩
theorem xNO (w : World) : (zeroValue 293).run prog w = .ok (.agg (u8s (List.replicate 1 0)).toArray) w := by kernel_rfl
theorem x77 (w : World) (base : Nat) (F : LN) (p : OA) (s : RD) (h : Rd w base F p s) (hB : base <= w.heap.size) :
  Calls prog 184 #[.pointer p] w fun e w' => e = .returned (.int .u8 s.byte) /\ RTo w base F p (s.take 1) w' := by
 obtain ⟨Zs, hz, hZs⟩ : ∃ Zs : List Value, (∀ w, (zeroValue 293).run prog w = .ok (.agg Zs.toArray) w) /\ Zs = u8s (List.replicate 1 0) := ⟨_, xNO, rfl⟩
 have hzl : Zs.length = 1 := by rw [hZs, x0C]; rfl
 have HZ := kH hZs
 clear hZs
 have B0 := kH (Blk.new w 293 Zs.toArray)
 have b0 := x0D w (.cells Zs.toArray 293)
 have H0 := kH (h.below b0)
 have hgw : w.heap.size ∉ F := fun hm => by have := h.under _ hm; omega
 have b0' := kH b0
 clear h b0
 go_enter func184, ntmps184
 go_wp2_with fail
 have hBw : base <= (w.alloc (.cells Zs.toArray 293)).heap.size := kT hB b0'.out.size
 generalize w.alloc (.cells Zs.toArray 293) = w0 at *
 generalize hgb : w.heap.size = gb at *
 refine x2G (by kernel_rfl) ?_
 refine wpAny_take (i := 0) (v := .slice (some ⟨gb, 0, none⟩) 1 1) rfl (by kernel_rfl) (by kernel_rfl) (by kernel_rfl) (fun _ _ _ h => h) (Or.inl ⟨by rfl, fun w => by go_simp⟩) ?_
 simp only [nH, pu, nB, nC, nD]
 refine wpAny_take (i := 1) (v := .pointer p) rfl (by kernel_rfl) (by kernel_rfl) (by kernel_rfl) (fun _ _ _ h => h) (Or.inl ⟨by rfl, fun w => by kernel_rfl⟩) ?_
 simp only [nH, pu, nB, nC, nD]
 refine x1M (i := 2) (by kernel_rfl) rfl (by rfl) ?_
 simp only [nH, pu, nB, nC, nD]
 refine x03 (by kernel_rfl) (x69 w0.drew base F p s 1 (H0.out.of (kR _) (fun _ _ => rfl)) (by omega) (by omega)) ?_
 rintro e w1 ⟨A, c, rfl, ⟨F1, r1, o1, f1⟩, ⟨B, hb⟩, -, -⟩
 refine ⟨_, rfl, ?_⟩
 simp only [nH, pu, nB, nC, nD]
 have B1 : Blk w1 gb 293 Zs.toArray := B0.out.of (o1.block gb B0.out.lt hgw)
 refine x1M (i := 3) (by kernel_rfl) rfl (by rfl) ?_
 simp only [nH, pu, nB, nC, nD]
 refine x7L (.tmp 4) (.tmp 6) rfl gb 1 293 Zs B1 hzl (by rfl) A _ c B _ (by rfl) hb (xAL s 1) (by omega) ?_
 intro w2 B2 o2
 simp only [nH, pu, nB, nC, nD]
 refine wpAny_done (by kernel_rfl) ?_ _
 refine NoPanic.normal ?_
 have hpad : (if (s.got 1).length = 0 then Zs else u8s (s.got 1)) = u8s (padded 1 (s.got 1)) := by
  unfold padded
  rw [HZ.out]
  split
  ·rfl
  ·rfl
 rw [hpad] at B2
 have R2 : RTo w base F p (s.take 1) w2 := by
  have hf : Fresh w F F1 := fun k hk => (f1 k hk).imp id (fun h => kT (show w.heap.size <= w0.drew.heap.size from b0'.out.size) h)
  refine ⟨F1, r1.of o2.size (fun k hk => o2.block k (r1.under k hk) (fun hm => ?_)), ((Only.of_below (w' := w0.drew) (by rw [hgb]; exact b0'.out.drew) F).trans (F' := F) o1 (Fresh.refl _ _)).trans o2 (fun k hk => .inr (by simp at hk; omega)), hf⟩
  simp at hm
  subst hm
  rcases f1 _ hk with h | h
  ·exact hgw h
  ·have : k < w0.heap.size := B0.out.lt
   have h' : w0.heap.size <= k := h
   omega
 have hcell : w2.cell? ⟨gb, 0, none⟩ = some (.int .u8 s.byte) := by
  rw [B2.cell]
  unfold RD.byte padded
  cases hg : s.got 1 with
  | nil => rfl
  | cons b l => rfl
 have HR := kH R2
 clear hpad R2 B2 o2 hb B1 r1 o1 f1
 go_wp2
 go_ret
 exact ⟨rfl, HR.out⟩
theorem x31 (s : RD) : -9223372036854775808 <= s.num /\ s.num <= 9223372036854775807 := x8K _
theorem RD.got_le (s : RD) (n : Int) : (s.got n).length <= s.bs.length := by
 unfold RD.got
 split
 ·rw [length_take]; omega
 ·simp
theorem RD.take_le (s : RD) (n : Int) : (s.take n).bs.length <= s.bs.length := by
 unfold RD.take
 split
 ·simp
 ·simp [RD.spoilt]
theorem xI6 (w : World) (base : Nat) (F : LN) (p : OA) (s : RD) (h : Rd w base F p s) (hB : base <= w.heap.size) (hs : s.bs.length <= 9000000) :
  Calls prog 187 #[.pointer p] w fun e w' => ∃ v F', e = .returned v /\ Own w' w.heap.size v s.bytes.length s.bytes /\ Rd w' base F' p s.bytesTo /\ Only F w w' /\ Fresh w F F' /\ (∀ b ∈ s.bytes, b < 256) /\ (∀ k, v.ownBlock = some k -> k ∉ F') := by
 have hgot : s.bytes.length <= 10000000 := by have := RD.got_le (s.take 8) s.num; have := RD.take_le s 8; unfold RD.bytes; omega
 have hlt := RD.got_lt (RD.take_good h.good 8) s.num
 have hFu := h.under
 go_enter func187, ntmps187
 go_wp2_with fail
 refine (x25 w base F p s h hB).mono ?_
 rintro e w1 ⟨rfl, F1, r1, o1, f1⟩
 go_wp2_with fail
 refine (x69 w1 base F1 p (s.take 8) s.num r1 (x31 s).1 (x31 s).2).mono ?_
 rintro e w2 ⟨A, c, rfl, r2, ⟨B, hb⟩, -, -⟩
 go_wp2_with fail
 refine (x0Q A _ c s.bytes w2 B hgot hb).mono ?_
 rintro e w3 ⟨v, rfl, h3, b3⟩
 go_wp2
 go_ret
 have R2 := r2.after o1 f1
 obtain ⟨F3, q1, q2, q3⟩ := R2
 have hq2 : Only F w w2 := q2
 refine ⟨v, F3, rfl, h3.weaken q2.size, q1.below b3, q2.trans (Only.of_below b3 F3) q3, q3, hlt, fun k hk hm => ?_⟩
 have h4 := (kD h3 k hk).1
 have h5 := q1.under k hm
 omega
theorem xBA (w : World) (base : Nat) (F : LN) (p : OA) (s : RD) (h : Rd w base F p s) (hB : base <= w.heap.size) :
  Calls prog 186 #[.pointer p] w fun e w' => e = .returned (.string (strOf s.bytes)) /\ RTo w base F p s.bytesTo w' := by
 go_enter func186, ntmps186
 go_wp2_with fail
 refine (x25 w base F p s h hB).mono ?_
 rintro e w1 ⟨rfl, F1, r1, o1, f1⟩
 go_wp2_with fail
 refine (x69 w1 base F1 p (s.take 8) s.num r1 (x31 s).1 (x31 s).2).mono ?_
 rintro e w2 ⟨A, c, rfl, r2, ⟨B, hb⟩, -, -⟩
 have hcv := x4C (P := prog) hb c 35 9 5 underlying35 underlying5 underlying9
 go_wp2
 go_ret
 exact ⟨rfl, r2.after o1 f1⟩
theorem xLN (w : World) (base : Nat) (F : LN) (p : OA) (s : RD) (h : Rd w base F p s) :
  Calls prog 132 #[.pointer p] w fun e w' => e = .returned (errV (if s.bad || decide (0 < s.bs.length) then 2 else 0)) /\ w = w' := by
 rcases h with ⟨rfl, rfl, rfl⟩ | ⟨g, rfl, A, c, rfl, h1, h2, h3, h4, h5, h6, h7⟩
 ·go_enter func132, ntmps132
  go_wp2
  go_ret
  exact ⟨rfl, rfl⟩
 ·have hc0 : w.cell? ⟨g, 0, none⟩ = some (.slice A s.bs.length c) := by rw [h1.cell]; rfl
  have hc1 : w.cell? ⟨g, 1, none⟩ = some (.bool s.bad) := by rw [h1.cell]; rfl
  cases hb : s.bad with
  | true =>
   rw [hb] at hc1
   go_enter func132, ntmps132
   go_wp2
   go_ret
   exact ⟨rfl, rfl⟩
  | false =>
   rw [hb] at hc1
   by_cases hl : 0 < s.bs.length
   ·have hd : decide (0 < s.bs.length) = true := by simpa using hl
    have hd2 : decide (0 < (s.bs.length : Int)) = true := decide_eq_true (by omega)
    rw [hd]
    clear hd
    go_enter func132, ntmps132
    go_wp2
    go_ret
    exact ⟨rfl, rfl⟩
   ·have hd : decide (0 < s.bs.length) = false := by simpa using hl
    have hd2 : decide (0 < (s.bs.length : Int)) = false := decide_eq_false (by omega)
    rw [hd]
    clear hd
    go_enter func132, ntmps132
    go_wp2
    go_ret
    exact ⟨rfl, rfl⟩
theorem x9A (A : OA) (n c : Nat) (bs : LN) (w : World) (B : Nat) (hn : n <= 9000000) (hb : Bytes w B A n bs) :
  Calls prog 120 #[.slice A n c] w fun e w' => ∃ g F, e = .returned (.pointer (some ⟨g, 0, none⟩)) /\ Rd w' w.heap.size F (some ⟨g, 0, none⟩) ⟨bs, false⟩ /\ Below w.heap.size w w' := by
 go_enter func120, ntmps120
 go_wp2_with fail
 refine (x0Q A n c bs w B (by omega) hb).mono ?_
 rintro e w1 ⟨v, rfl, h1, b1⟩
 obtain ⟨A1, c1, rfl, hc1, hc2, hA1⟩ := h1.form
 go_wp2
 go_ret
 have hl := hb.len
 subst hl
 refine ⟨w1.heap.size, w1.heap.size :: (A1.map Addr.block).toList, rfl, .inr ⟨_, rfl, A1, c1, rfl, Blk.new _ _ _, ?_, hc1, hc2, b1.size, fun a ha => ?_, ⟨fun e => (by cases e), hb.2⟩⟩, b1.alloc b1.size _⟩
 ·exact ((h1.bytes hb.2).since (x0D _ _)).more (by simp)
 ·rcases hA1 with ⟨rfl, -⟩ | ⟨g, rfl, hg1, hg2⟩
  ·cases ha
  ·injection ha with ha
   subst ha
   exact ⟨hg1, kL hg2 (by simp), Nat.ne_of_lt hg2⟩
theorem xJK (m k : Nat) (v : Value) (hm : 0 < m) : madeCells (List.replicate m v).toArray k = (List.replicate k v).toArray := by
 unfold madeCells
 apply Array.ext
 ·simp
 ·intro i h1 h2
  have h3 : i % m < m := Nat.mod_lt _ hm
  have h4 : i % (List.replicate m v).toArray.size < (List.replicate m v).toArray.size := by simpa using h3
  rw [Array.getElem_map, Array.getElem_range, getElem!_pos (List.replicate m v).toArray (i % (List.replicate m v).toArray.size) h4]
  simp
theorem x5A (w : World) (base g gm : Nat) (v : Value) (d : DM) (i : Int) (h : Lies w base g gm v d) :
  Calls prog 243 #[.pointer (some ⟨g, 0, none⟩), .int .i64 i] w fun e w' => e = .returned (.bool (d.has i)) /\ w = w' := by
 obtain ⟨-, -, -, -, c4, -, -, -⟩ := h.cells
 by_cases h0 : 0 <= i
 ·go_enter func243, ntmps243
  go_wp2
  go_ret
  exact ⟨by simp [DM.has, h0], rfl⟩
 ·have h0' : decide (0 <= i) = false := by simpa using h0
  go_enter func243, ntmps243
  go_wp2
  go_ret
  exact ⟨by simp [DM.has, h0'], rfl⟩
theorem x91 (w : World) (base g gm : Nat) (v : Value) (d : DM) (h : Lies w base g gm v d) :
  Calls prog 255 #[.pointer (some ⟨g, 0, none⟩)] w fun e w' => e = .returned (.bool d.gone) /\ w = w' := by
 obtain ⟨-, -, -, c3, -, -, -, -⟩ := h.cells
 go_enter func255, ntmps255
 go_wp2
 go_ret
 exact ⟨by simp, rfl⟩
theorem xP7 (w : World) (base g gm : Nat) (v : Value) (d : DM) (h : Lies w base g gm v d) :
  Calls prog 37 #[.pointer (some ⟨g, 0, none⟩)] w fun e w' => e = .returned (.int .i64 d.n) /\ w = w' := by
 obtain ⟨-, -, -, -, c4, -, -, -⟩ := h.cells
 go_enter func37, ntmps37
 go_wp2
 go_ret
 exact ⟨by simp, rfl⟩
theorem xKP (w : World) (base g gm : Nat) (v : Value) (d : DM) (h : Lies w base g gm v d) :
  Calls prog 25 #[.pointer (some ⟨g, 0, none⟩)] w fun e w' => e = .returned (.int .i64 d.steps) /\ w = w' := by
 obtain ⟨c0, -, -, -, -, -, -, -⟩ := h.cells
 go_enter func25, ntmps25
 go_wp2
 go_ret
 exact ⟨by simp, rfl⟩
theorem Lies.power {v : Value} {d d' : DM} (h : Lies w base g gm v d) (ho : Only [g] w w') (hb : Blk w' g 106 (dcells d' gm v)) (hs : d'.sure = d.sure) (hw : d'.wait = d.wait) : Lies w' base g gm v d' := by
 obtain ⟨f, h1, h2⟩ := h.map
 have hne : gm ≠ g := h1.ne_blk h.blk
 refine ⟨hb, ⟨f, h1.of (ho.block gm h1.lt (by simpa using hne)), by rw [hs]; exact h2⟩, ?_, h.bg, h.bm⟩
 rw [hw]
 refine x06 h.row fun k hk => ho.block k (x02 h.row k hk) ?_
 intro hm
 simp only [mem_singleton] at hm
 subst hm
 exact x12 h.row h.blk (by decide) (x00.1 hk)
theorem x5O (w : World) (base g gm : Nat) (v : Value) (d : DM) (h : Lies w base g gm v d) (hs : d.steps < 4611686018427387904) (hl : d.left <= 9223372036854775807) :
  Calls prog 244 #[.pointer (some ⟨g, 0, none⟩)] w fun e w' => e = .returned (errV d.stepErr) /\ Lies w' base g gm v d.step /\ Only [g] w w' := by
 obtain ⟨c0, c1, c2, c3, c4, c5, c6, hf⟩ := h.cells
 have f0 := hf 0; have f2 := hf 2; have f3 := hf 3
 clear hf
 have hb := h.blk
 obtain ⟨n, sure, wait, steps, armed, left, gone⟩ := d
 simp only at c0 c1 c2 c3 c4 hs hl
 have fin : ∀ (d' : DM) (w' : World), Blk w' g 106 (dcells d' gm v) -> d'.sure = sure -> d'.wait = wait -> Only [g] w w' -> Lies w' base g gm v d' /\ Only [g] w w' :=
  fun d' w' h1 h2 h3 h4 => ⟨h.power h4 h1 h2 h3, h4⟩
 have Fin := kH fin
 clear fin h
 cases gone with
 | true =>
  go_enter func244, ntmps244
  go_wp2
  go_ret
  exact ⟨rfl, Fin.out _ _ (hb.set_ 3 _) rfl rfl ((Only.refl _ _).setCell (by simp) _)⟩
 | false =>
  cases armed with
  | false =>
   go_enter func244, ntmps244
   go_wp2
   go_ret
   exact ⟨rfl, Fin.out _ _ (hb.set_ 0 _) rfl rfl ((Only.refl _ _).setCell (by simp) _)⟩
  | true =>
   by_cases h0 : left = 0
   ·subst h0
    go_enter func244, ntmps244
    go_wp2
    go_ret
    exact ⟨rfl, Fin.out _ _ (hb.set_ 3 _) rfl rfl ((Only.refl _ _).setCell (by simp) _)⟩
   ·have h1 : ((left : Int) == 0) = false := by simp; omega
    have h2 : DM.off ⟨n, sure, wait, steps, true, left, false⟩ = false := by simp [DM.off, h0]
    have H2 := kH h2
    clear h2
    go_enter func244, ntmps244
    go_wp2
    go_ret
    refine ⟨by unfold DM.stepErr; rw [H2.out]; rfl, Fin.out _ _ ?_ ?_ ?_ (((Only.refl _ _).setCell (by simp) _).setCell (by simp) _)⟩
    ·have := (hb.set_ 0 (.int .i64 ((steps : Int) + 1))).set_ 2 (.int .i64 ((left : Int) - 1))
     rw [show DM.step ⟨n, sure, wait, steps, true, left, false⟩ = ⟨n, sure, wait, steps + 1, true, left - 1, false⟩ by unfold DM.step; rw [H2.out]; rfl]
     rw [show ((left : Int) - 1) = ((left - 1 : Nat) : Int) by omega] at this ⊢
     exact this
    ·unfold DM.step; rw [H2.out]; rfl
    ·unfold DM.step; rw [H2.out]; rfl
theorem xET (w : World) (base g gm : Nat) (v : Value) (d : DM) (h : Lies w base g gm v d) :
  Calls prog 69 #[.pointer (some ⟨g, 0, none⟩)] w fun e w' => e = .returned (.tuple #[]) /\ Lies w' base g gm v d.restore /\ Only [g] w w' := by
 obtain ⟨c0, c1, c2, c3, c4, c5, c6, hf⟩ := h.cells
 have f1 := hf 1; have f2 := hf 2; have f3 := hf 3
 clear hf
 have Fin := kH h
 clear h
 go_enter func69, ntmps69
 go_wp2
 go_end0
 have h4 : Only [g] w (((w.setCell ⟨g, 1, none⟩ (.bool false)).setCell ⟨g, 2, none⟩ (.int .i64 0)).setCell ⟨g, 3, none⟩ (.bool false)) := (((Only.refl _ _).setCell (by simp) _).setCell (by simp) _).setCell (by simp) _
 exact ⟨rfl, Fin.out.power h4 (((Fin.out.blk.set_ 1 _).set_ 2 _).set_ 3 _) rfl rfl, h4⟩
section
attribute [local go_sem ↓] Go.wp_at_zero Go.wp_at_succ
theorem xNC (w : World) (base g gm : Nat) (v : Value) (d : DM) (i : Int) (s : Sec) (h : Lies w base g gm v d) (hs : d.steps < 4611686018427387904) (hl : d.left <= 9223372036854775807) (hd : d.has i = true) (ho : d.off = false) (hw : d.wait.length <= 1000000) (hB : base <= w.heap.size) :
  Calls prog 204 #[.pointer (some ⟨g, 0, none⟩), .int .i64 i, s.v] w fun e w' => e = .returned (errV (d.writeErr i)) /\ DTo w base (g :: gm :: rowOf v) g (d.write i s) w' := by
 unfold Sec.v
 have hse : d.stepErr = 0 := by simp [DM.stepErr, ho]
 have Hd := kH hd; have Ho := kH ho; have Hse := kH hse
 clear hd ho hse
 have H := kH h
 clear h
 go_enter func204, ntmps204
 go_wp2_with fail
 refine (x5A _ base g gm v d i (H.out.alloc _)).mono ?_
 rintro e w' ⟨rfl, rfl⟩
 rw [Hd.out]
 go_wp2_with fail
 refine (x5O _ base g gm v d (H.out.alloc _) hs hl).mono ?_
 rintro e w1 ⟨rfl, h1, o1⟩
 rw [Hse.out]
 have hgw := H.out.blk.lt
 obtain ⟨-, -, -, -, -, -, c6, hf⟩ := h1.cells
 have f6 := hf 6
 have hbx : Blk w1 w.heap.size 66 s.cs.toArray := (Blk.new w _ _).of (o1.block _ (by simp) (by simp; omega))
 have hr : w1.rangeAt w.heap.size 0 s.cs := by have := World.rangeAt_of_block hbx 0 128; simpa [s.cs_len, take_of_length_le] using this
 have hrow : w1.ownsRow base 208 129 v d.wait.length (d.wait.flatMap wrc) := by have := h1.row; unfold DM.step at this; rw [Ho.out] at this; exact this
 have hsz : w.heap.size + 1 <= w1.heap.size := by have := o1.size; simpa using this
 have g6 : v.ownBlock ≠ some g := x12 hrow h1.blk (by decide)
 have gb : v.ownBlock ≠ some w.heap.size := x12 hrow hbx (by decide)
 have hu := underlying66
 have hi : (prog.info? 66).map (·.size) = some s.cs.length := by rw [s.cs_len]; exact x0X
 obtain ⟨i0, hi0, hz0, hz1, hz2⟩ := info_parts xHX
 have hg1 : g < w1.heap.size := by omega
 have hne : w.heap.size ≠ g := by omega
 have H1 := kH h1
 have Hrow := kH hrow
 have Hf := kH hf
 have Hbx := kH hbx
 clear h1 hrow hf hbx
 simp only [errV]
 go_wp2
 refine x2G (by kernel_rfl) ?_
 refine wpAny_take (i := 0) (v := .pointer (some ⟨g, 0, none⟩)) rfl (by kernel_rfl) (by kernel_rfl) (by kernel_rfl) (fun _ _ _ h => h) (Or.inl ⟨by rfl, fun w => by kernel_rfl⟩) ?_
 simp only [nH, pu, nB, nC, nD]
 refine wpAny_take (i := 1) (v := .pointer (some ⟨g, 0, none⟩)) rfl (by kernel_rfl) (by kernel_rfl) (by kernel_rfl) (fun _ _ _ h => h) (Or.inl ⟨by rfl, fun w => by kernel_rfl⟩) ?_
 simp only [nH, pu, nB, nC, nD]
 refine wpAny_take (i := 2) (v := .pointer (some ⟨g, 0, none⟩)) rfl (by kernel_rfl) (by kernel_rfl) (by kernel_rfl) (fun _ _ _ h => h) (Or.inl ⟨by rfl, fun w => by kernel_rfl⟩) ?_
 simp only [nH, pu, nB, nC, nD]
 refine wpAny_take (i := 3) (v := .pointer (some ⟨g, 6, none⟩)) rfl (by kernel_rfl) (by kernel_rfl) (by kernel_rfl) (fun _ _ _ h => h) (Or.inl ⟨by rfl, fun w => by kernel_rfl⟩) ?_
 simp only [nH, pu, nB, nC, nD]
 refine wpAny_take (i := 6) (v := .int .i64 i) rfl (by kernel_rfl) (by kernel_rfl) (by kernel_rfl) (fun _ _ _ h => h) (Or.inl ⟨by rfl, fun w => by kernel_rfl⟩) ?_
 simp only [nH, pu, nB, nC, nD]
 have hrd : w1.drew.rangeAt w.heap.size 0 s.cs := hr
 have c6d : w1.drew.cell? ⟨g, 6, none⟩ = some v := c6
 refine xPY (i := 4) (v := v) (T := fun w' => w'.cell? ⟨g, 6, none⟩ = some v) rfl (by kernel_rfl) (by kernel_rfl) (by kernel_rfl) (fun _ _ _ h => h) (Or.inl ⟨by rfl, fun w' hw' => by go_simp⟩) c6d ?_
 simp only [nH, pu, nB, nC, nD]
 refine xHL (j := 5) (by kernel_rfl) rfl (by rfl) (by kernel_rfl) ?_
 simp only [nH, pu, nB, nC, nD]
 refine wp_load_mid 66 (.tmp 5) (by rfl) w.heap.size 0 (by rfl) s.cs _ hrd hu (by rfl) hi ⟨c6d, ?_⟩
 simp only [nH, pu, nB, nC, nD]
 refine xHL (j := 7) (by kernel_rfl) rfl (by rfl) (by kernel_rfl) ?_
 simp only [nH, pu, nB, nC, nD]
 refine x0A (v := .agg (wrc (i, s)).toArray) (w' := w1.drew) (by have := xFO s i w1.drew; simp [execOp, Act.eval, this]) ⟨c6d, ?_⟩
 simp only [nH, pu, nB, nC, nD]
 refine xHL (j := 8) (by kernel_rfl) rfl (by rfl) (by kernel_rfl) ?_
 simp only [nH, pu, nB, nC, nD]
 refine x0A (v := .slice (some ⟨w1.heap.size, 0, none⟩) 1 1) (w' := w1.drew.alloc (.cells (wrc (i, s)).toArray 208)) (by have := xEU (i, s) w1.drew; simp [execOp, Act.eval, this]) ⟨(World.cell?_alloc_lt w1.drew _ ⟨g, 6, none⟩ hg1).trans c6d, ?_⟩
 simp only [nH, pu, nB, nC, nD]
 refine xQH (j := 9) (by kernel_rfl) rfl (by rfl) (by kernel_rfl) ?_
 simp only [nH, pu, nB, nC, nD]
 refine x1A _ (.tmp 27) (.tmp 31) 104 rfl base 208 i0 _ 129 136 underlying104 hi0 hz0 hz1 hz2 (by simp [Value.cells, x2D]) (by omega) v d.wait.length (d.wait.flatMap wrc) rfl (Hrow.out.drew.alloc _) (w1.heap.size + 1) (some ⟨w1.heap.size, 0, none⟩) 1 1 (wrc (i, s)) rfl (Reads.newN w1.drew (wrc (i, s)) 1 129 _ _ (by simp [x2D])) (xDQ (i, s)) (by simp only [maxLen]; omega) (by omega) (by simp; omega) ?_
 intro v2 w2 hown hgrow hat
 obtain ⟨g2, cap2, rfl, hb2, hlt2⟩ := hown.form (Nat.succ_pos _)
 have c62 : w2.cell? ⟨g, 6, none⟩ = some v := (hgrow.cell_far _ (by simp; omega) (Ne.symm g6)).trans ((World.cell?_alloc_lt w1.drew _ ⟨g, 6, none⟩ hg1).trans c6d)
 have f62 : w2.frozen? ⟨g, 6, none⟩ = false := (hgrow.frozen_far _ (by simp; omega) (Ne.symm g6)).trans ((World.frozen?_of_block (w := w1) (kG w1 _ _ hg1)).trans f6)
 simp only [nH, pu, nB, nC, nD]
 refine x1M (i := 10) (by kernel_rfl) rfl (by rfl) ?_
 simp only [nH, pu, nB, nC, nD]
 refine x0A (v := .pointer (some ⟨g, 0, none⟩)) (w' := w2) (by kernel_rfl) ?_
 simp only [nH, pu, nB, nC, nD]
 refine x1M (i := 11) (by kernel_rfl) rfl (by rfl) ?_
 simp only [nH, pu, nB, nC, nD]
 refine x0A (v := .pointer (some ⟨g, 6, none⟩)) (w' := w2) (by kernel_rfl) ?_
 simp only [nH, pu, nB, nC, nD]
 refine x1M (i := 12) (by kernel_rfl) rfl (by rfl) ?_
 simp only [nH, pu, nB, nC, nD]
 go_simp
 refine wpAny_done (by kernel_rfl) ?_ _
 refine NoPanic.normal ?_
 have Hown := kH hown; have Hgrow := kH hgrow; have Hat := kH hat
 clear hown hgrow hat
 go_wp2
 go_ret
 have ow : Only (g :: gm :: rowOf v) w w1.drew := (((Only.refl _ w).alloc _).trans o1 (fun k hk => by simp at hk; subst hk; simp)).drew
 have o2 := ((ow.alloc (Obj.cells (wrc (i, s)).toArray 208)).grown Hgrow.out (fun k hk => .inl (by simp [x00, hk]))).setCell (p := ⟨g, 6, none⟩) (.inl (by simp)) (Value.slice (some ⟨g2, 0, none⟩) (d.wait.length + 1) cap2)
 have h2 := H1.out.waits Hgrow.out (v2 := Value.slice (some ⟨g2, 0, none⟩) (d.wait.length + 1) cap2) (x := (i, s)) (by rw [DM.step_wait]; exact Hown.out)
 rw [DM.step_wait] at h2
 refine ⟨by unfold DM.writeErr; rw [Hd.out, Ho.out]; rfl, _, ⟨gm, Value.slice (some ⟨g2, 0, none⟩) (d.wait.length + 1) cap2, rfl, ?_⟩, o2, ?_⟩
 ·unfold DM.write
  rw [Hd.out, Ho.out]
  exact h2
 ·intro k hk
  simp only [mem_cons] at hk ⊢
  rcases hk with rfl | rfl | hk
  ·simp
  ·simp
  ·rw [x00] at hk
   rcases Hat.out with e | e
   ·exact .inl (.inr (.inr (x00.2 (e ▸ hk))))
   ·rw [e] at hk
    injection hk with hk
    subst hk
    exact .inr (by simp; omega)
theorem xIK (w : World) (base g : Nat) (F : LN) (d : DM) (i : Int) (s : Sec) (h : DiskAt w base F g d) (hs : d.steps < 4611686018427387904) (hl : d.left <= 9223372036854775807) (hw : d.wait.length <= 1000000) (hB : base <= w.heap.size) :
  Calls prog 204 #[.pointer (some ⟨g, 0, none⟩), .int .i64 i, s.v] w fun e w' => e = .returned (errV (d.writeErr i)) /\ DTo w base F g (d.write i s) w' := by
 obtain ⟨gm, v, rfl, h⟩ := h
 cases hd : d.has i with
 | false =>
  have Hd := kH hd
  have H := kH h
  clear hd h
  unfold Sec.v
  go_enter func204, ntmps204
  go_wp2_with fail
  refine (x5A _ base g gm v d i (H.out.alloc _)).mono ?_
  rintro e w' ⟨rfl, rfl⟩
  rw [Hd.out]
  go_wp2
  go_ret
  refine ⟨by unfold DM.writeErr; rw [Hd.out]; rfl, ?_⟩
  unfold DM.write
  rw [Hd.out]
  exact ⟨_, ⟨gm, v, rfl, H.out.alloc _⟩, (Only.refl _ _).alloc _, Fresh.refl _ _⟩
 | true =>
  cases ho : d.off with
  | false => exact xNC w base g gm v d i s h hs hl hd ho hw hB
  | true =>
   have hse : d.stepErr = 3 := by simp [DM.stepErr, ho]
   have Hd := kH hd
   have Ho := kH ho
   have Hse := kH hse
   have H := kH h
   clear hd h ho hse
   unfold Sec.v
   go_enter func204, ntmps204
   go_wp2_with fail
   refine (x5A _ base g gm v d i (H.out.alloc _)).mono ?_
   rintro e w' ⟨rfl, rfl⟩
   rw [Hd.out]
   go_wp2_with fail
   refine (x5O _ base g gm v d (H.out.alloc _) hs hl).mono ?_
   rintro e w1 ⟨rfl, h1, o1⟩
   have H1 := kH h1
   have hgw := H.out.blk.lt
   clear h1
   rw [Hse.out]
   simp only [errV]
   go_wp2
   go_ret
   refine ⟨by unfold DM.writeErr; rw [Hd.out, Ho.out]; rfl, ?_⟩
   unfold DM.write
   rw [Hd.out, Ho.out]
   exact ⟨_, ⟨gm, v, rfl, H1.out⟩, ((Only.refl _ w).alloc _).trans (o1.mono (fun k hk => by simp at hk; simp [hk])) (Fresh.refl _ _), Fresh.refl _ _⟩
end
section
attribute [local go_sem ↓] Go.wp_at_zero Go.wp_at_succ
theorem x9V (w : World) (base g gm : Nat) (v : Value) (d : DM) (h : Lies w base g gm v d) (hw : d.wait.length <= 1000000) (f : Nat) (cap : Array Value) (kept : Nat -> Bool) (I : World -> Prop) (hI0 : I w)
 (hIs : ∀ W W', Only [gm] W W' -> I W -> I W') (hcf : ∀ args W, (callFunc f args).run prog W = .ok (.enter f args) W)
 (hK : ∀ (k : Nat) W, k < d.wait.length -> I W -> Calls prog f (#[.int .i64 k] ++ cap) W fun e W' => e = .returned (.bool (kept k)) /\ W = W') :
  Calls prog 67 #[.pointer (some ⟨g, 0, none⟩), .func (.func f) #[] cap] w fun e w' => e = .returned (.tuple #[]) /\ Lies w' base g gm (.slice none 0 0) (d.settle kept) /\ Only [g, gm] w w' := by
 obtain ⟨-, -, -, -, -, c5, c6, hf⟩ := h.cells
 have f6 := hf 6
 clear hf
 obtain ⟨A, cp, rfl⟩ : ∃ A cp, v = .slice A d.wait.length cp := by
  rcases h.row.2 with ⟨rfl, hn⟩ | ⟨g', cap, cur, rfl, _⟩
  ·rw [hn]; exact ⟨_, _, rfl⟩
  ·exact ⟨_, _, rfl⟩
 have HI0 := kH hI0
 have HIs := kH hIs
 have HK := kH hK
 have H := kH h
 clear h hI0 hIs hK
 go_enter func67, ntmps67
 go_wp2
 go_loopw [11] (fun i wr => ∃ k : Nat, k <= d.wait.length /\ i = .int .i64 k /\ Lies wr base g gm (.slice A d.wait.length cp) { d with sure := settled kept 0 (d.wait.take k) d.sure } /\ Only [gm] w wr /\ I wr) (fun i _ => d.wait.length - (intOf i).toNat)
 case atStart => exact ⟨0, kY _, rfl, by simpa [settled] using H.out, Only.refl _ _, HI0.out⟩
 case round =>
  obtain ⟨k, hk, rfl, hL, ho, hI⟩ := hrel
  by_cases hlt : k < d.wait.length
  ·obtain ⟨gw, x, rfl, hnc, hx, hr, hbg, hgl⟩ := xL9 x2D hL.row rfl hlt
   have hu := underlying208
   have hi : (prog.info? 208).map (·.size) = some (wrc x).length := by rw [x2D]; exact x6B
   obtain ⟨Z, hZ1, hZ2⟩ := x6L
   have Hx := kH hx
   have HL := kH hL
   have HI := kH hI
   have Ho := kH ho
   clear hx hL hI ho
   go_wp2_with (first
    | (refine wpList_load_mid rfl 208 (.tmp 14) rfl gw (k * 129) rfl (wrc x) _ hr hu rfl hi ?_)
    | (refine x2T rfl 208 (.tmp 5) (.tmp 15) rfl (wrc x) Z rfl rfl hi (by rw [hZ2, x2D]) (xDQ x) ?_))
   refine (HK.out k _ hlt (HIs.out _ _ ((Only.refl _ _).alloc _) HI.out)).mono ?_
   rintro e w' ⟨rfl, rfl⟩
   cases hkp : kept k with
   | false =>
    have Hkp := kH hkp
    clear hkp
    go_wp2
    go_roundw
    case rel =>
     refine ⟨k + 1, by omega, by go_num, ?_, Ho.out.alloc _, HIs.out _ _ ((Only.refl _ _).alloc _) HI.out⟩
     rw [take_add_one, Hx.out, Option.toList_some, x44, length_take, Nat.min_eq_left hk, Nat.zero_add, Hkp.out]
     exact HL.out.alloc _
    case measure => simp [intOf]; omega
   | true =>
    have Hkp := kH hkp
    clear hkp
    go_wp2
    have HLa := kH (HL.out.alloc (.cells (wrc x).toArray 208))
    have HIa := kH (HIs.out _ _ ((Only.refl _ wr).alloc (.cells (wrc x).toArray 208)) HI.out)
    have Hoa := kH (Ho.out.alloc (.cells (wrc x).toArray 208))
    have hbx : Blk (wr.alloc (.cells (wrc x).toArray 208)) wr.heap.size 208 (wrc x).toArray := Blk.new wr _ _
    have hwa : (wr.alloc (.cells (wrc x).toArray 208)).heap.size = wr.heap.size + 1 := by simp
    generalize hga : wr.alloc (.cells (wrc x).toArray 208) = wa at *
    clear hga
    obtain ⟨f0, hm0, hf0⟩ := HLa.out.map
    obtain ⟨-, -, -, -, -, k5, -, -⟩ := HLa.out.cells
    obtain ⟨w3, hrun, hm3, hg3, hs3⟩ := x8E (P := prog) (w := wa.drew) underlying101 underlying3 (hm0.of rfl) x.1 x.2.v
    unfold Sec.v at hrun
    have hgm : gm ≠ g := hm0.ne_blk HLa.out.blk
    have hgb : gm ≠ wr.heap.size := hm0.ne_blk hbx
    have hgl1 := HLa.out.blk.lt
    have cat : wa.cell? ⟨wr.heap.size, 128, none⟩ = some (.int .i64 x.1) := by
     rw [hbx.cell]
     simp [wrc, x.2.cs_len]
    have rat : wa.rangeAt wr.heap.size 0 x.2.cs := fun j u hj => by
     rw [Nat.zero_add, hbx.cell]
     have : j < x.2.cs.length := (List.getElem?_eq_some_iff.1 hj).1
     simp only [wrc, List.getElem?_toArray]
     rw [List.getElem?_append_left this]
     exact hj
    have hu2 := underlying66
    have hi2 : (prog.info? 66).map (·.size) = some x.2.cs.length := by rw [x.2.cs_len]; exact x0X
    clear hu hi
    have Hm3 := kH hm3
    have Hg3 := kH hg3
    have Hs3 := kH hs3
    have Hf0 := kH hf0
    have Hbx := kH hbx
    have Hwa := kH hwa
    clear hm3 hg3 hs3 hf0 hbx hwa
    go_region_held3 (fun w' => w'.cell? ⟨g, 5, none⟩ = some (.map (some gm)) /\ w'.cell? ⟨wr.heap.size, 128, none⟩ = some (.int .i64 x.1) /\ w'.rangeAt wr.heap.size 0 x.2.cs)
     (first
      | exact ⟨k5, cat, rat⟩
      | exact ⟨(Hg3.out.cell_far _ hgl1 (by simpa using Ne.symm hgm)).trans k5, (Hg3.out.cell_far _ Hbx.out.lt (by simpa using Ne.symm hgb)).trans cat, fun j u hj => (Hg3.out.cell_far _ Hbx.out.lt (by simpa using Ne.symm hgb)).trans (rat j u hj)⟩)
     (fail)
    go_wp2
    go_roundw
    case rel =>
     refine ⟨k + 1, by omega, by go_num, ?_, Hoa.out.drew.grown Hg3.out (fun j e => .inl (by injection e with e; simp [e])), HIs.out _ _ ((Only.refl _ wa).drew.grown Hg3.out (fun j e => .inl (by injection e with e; simp [e]))) HIa.out⟩
     rw [take_add_one, Hx.out, Option.toList_some, x44, length_take, Nat.min_eq_left hk, Nat.zero_add, Hkp.out, if_pos rfl]
     exact (HLa.out.drew).maps Hf0.out Hg3.out Hm3.out
    case measure => simp [intOf]; omega
  ·obtain rfl : k = d.wait.length := by omega
   obtain ⟨-, -, -, -, -, -, r6, rf⟩ := hL.cells
   have rf6 := rf 6
   clear rf
   have HL := kH hL
   have HI := kH hI
   have Ho := kH ho
   clear hL hI ho
   go_wp2
   go_end0
   rw [take_length] at HL
   have o2 : Only [g, gm] w (wr.setCell ⟨g, 6, none⟩ (.slice none 0 0)) := (Ho.out.mono (fun k hk => by simp at hk; simp [hk])).setCell (by simp) _
   refine ⟨rfl, ?_, o2⟩
   have hb := HL.out.blk.set_ 6 (.slice none 0 0)
   obtain ⟨f0, hm0, hf0⟩ := HL.out.map
   exact ⟨hb, ⟨f0, hm0.of (kE _ _ _ _ (hm0.ne_blk HL.out.blk)), hf0⟩, World.ownsRow_nil _ _ _ _, H.out.bg, H.out.bm⟩
theorem xOS (k : Int) (w : World) : Calls prog 245 #[.int .i64 k] w fun e w' => e = .returned (.bool true) /\ w = w' := by
 go_enter func245, ntmps245
 go_wp2
 go_ret
 exact ⟨rfl, rfl⟩
def flags (l : List Bool) : List Value := l.map Value.bool
theorem xJS (A : OA) (c B b : Nat) (keep : List Bool) (k : Nat) (w : World) (hb : w.cell? ⟨b, 0, none⟩ = some (.slice A keep.length c)) (hr : Reads w B 1 A keep.length (flags keep)) :
  Calls prog 68 #[.int .i64 k, .pointer (some ⟨b, 0, none⟩)] w fun e w' => e = .returned (.bool (keptOf keep k)) /\ w = w' := by
 by_cases hlt : k < keep.length
 ·obtain ⟨ad, u, rfl, _, hu, hc⟩ := hr.at_ hlt
  have hu2 : u = .bool (keptOf keep k) := by
   simp only [flags, List.getElem?_map, List.getElem?_eq_getElem hlt, Option.map_some, Option.some.injEq] at hu
   rw [<- hu]
   simp [keptOf, hlt]
  have HU := kH hu2
  have hd : decide ((k : Int) < (keep.length : Int)) = true := by simpa using hlt
  clear hu2 hu hr
  have hc2 : w.cell? (ad.add k) = some (.bool (keptOf keep k)) := by rw [<- HU.out]; exact hc
  clear hc HU
  go_enter func68, ntmps68
  go_wp2
  go_ret
  exact ⟨by simp, rfl⟩
 ·have hd : decide ((k : Int) < (keep.length : Int)) = false := by simpa using hlt
  have hu2 : keptOf keep k = false := by simp [keptOf, List.getElem?_eq_none (Nat.le_of_not_lt hlt)]
  have HU := kH hu2
  clear hu2 hr
  go_enter func68, ntmps68
  go_wp2
  go_ret
  exact ⟨by rw [HU.out]; rfl, rfl⟩
theorem xDS {v : Value} (h : Only [g, gm] w w') : Only (g :: gm :: rowOf v) w w' := h.mono (fun k hk => by simp at hk ⊢; rcases hk with rfl | rfl <;> simp)
theorem xKK (w : World) (base g : Nat) (F : LN) (d : DM) (h : DiskAt w base F g d) (hs : d.steps < 4611686018427387904) (hl : d.left <= 9223372036854775807) (hw : d.wait.length <= 1000000) :
  Calls prog 205 #[.pointer (some ⟨g, 0, none⟩)] w fun e w' => e = .returned (errV d.stepErr) /\ DTo w base F g d.flush w' := by
 obtain ⟨gm, v, rfl, h⟩ := h
 cases ho : d.off with
 | true =>
  have hse : d.stepErr = 3 := by simp [DM.stepErr, ho]
  have Ho := kH ho
  have Hse := kH hse
  have H := kH h
  clear h ho hse
  go_enter func205, ntmps205
  go_wp2_with fail
  refine (x5O _ base g gm v d H.out hs hl).mono ?_
  rintro e w1 ⟨rfl, h1, o1⟩
  have H1 := kH h1
  clear h1
  rw [Hse.out]
  simp only [errV]
  go_wp2
  go_ret
  refine ⟨by rw [Hse.out]; rfl, ?_⟩
  unfold DM.flush
  rw [Ho.out]
  exact H1.out.to o1
 | false =>
  have hse : d.stepErr = 0 := by simp [DM.stepErr, ho]
  have Ho := kH ho
  have Hse := kH hse
  have H := kH h
  clear h ho hse
  go_enter func205, ntmps205
  go_wp2_with fail
  refine (x5O _ base g gm v d H.out hs hl).mono ?_
  rintro e w1 ⟨rfl, h1, o1⟩
  have H1 := kH h1
  clear h1
  rw [Hse.out]
  simp only [errV]
  go_wp2_with fail
  refine (x9V w1 base g gm v d.step H1.out (by rw [DM.step_wait]; exact hw) 245 #[] (fun _ => true) (fun _ => True) trivial (fun _ _ _ _ => trivial) (fun _ _ => rfl) (fun k W _ _ => xOS k W)).mono ?_
  rintro e w2 ⟨rfl, h2, o2⟩
  have H2 := kH h2
  clear h2
  go_wp2
  go_ret
  refine ⟨by rw [Hse.out]; rfl, ?_⟩
  unfold DM.flush
  rw [Ho.out]
  exact ⟨_, ⟨gm, _, rfl, H2.out⟩, (o1.mono (fun k hk => by simp at hk; simp [hk])).trans (xDS o2) (Fresh.refl _ _), fun k hk => .inl (by simp [rowOf, Value.ownBlock] at hk; rcases hk with rfl | rfl <;> simp)⟩
theorem xKW (w : World) (base g : Nat) (F : LN) (d : DM) (A : OA) (c B : Nat) (keep : List Bool) (h : DiskAt w base F g d) (hw : d.wait.length <= 1000000) (hR : ∀ W', Only F w W' -> Reads W' B 1 A keep.length (flags keep)) :
  Calls prog 23 #[.pointer (some ⟨g, 0, none⟩), .slice A keep.length c] w fun e w' => e = .returned (.tuple #[]) /\ DTo w base F g (d.crash keep) w' := by
 obtain ⟨gm, v, rfl, h⟩ := h
 have H := kH h
 have HR := kH hR
 have hgw := h.blk.lt
 obtain ⟨f0, hm0, -⟩ := h.map
 have hgm := hm0.lt
 clear h hR hm0
 go_enter func23, ntmps23
 go_wp2_with fail
 have o0 : Only (g :: gm :: rowOf v) w (w.alloc (.cells #[.slice A keep.length c] 23)) := (Only.refl _ _).alloc _
 refine (x9V _ base g gm v d (H.out.alloc _) hw 68 #[.pointer (some ⟨w.heap.size, 0, none⟩)] (keptOf keep)
  (fun W => W.cell? ⟨w.heap.size, 0, none⟩ = some (.slice A keep.length c) /\ Only (g :: gm :: rowOf v) w W) ⟨?_, o0⟩ ?_ (fun _ _ => rfl)
  (fun k W _ hI => xJS A c B w.heap.size keep k W hI.1 (HR.out W hI.2))).mono ?_
 ·rw [(Blk.new w _ _).cell]; rfl
 ·intro W W' hO hI
  refine ⟨(hO.cell (p := ⟨w.heap.size, 0, none⟩) (block_lt_of_cell hI.1) (by simp; omega)).trans hI.1, hI.2.trans (hO.mono (fun k hk => ?_)) (Fresh.refl _ _)⟩
  simp at hk
  simp [hk]
 rintro e w2 ⟨rfl, h2, o2⟩
 have H2 := kH h2
 have O2 := kH (o0.trans (xDS o2) (Fresh.refl _ _))
 clear h2 o2 o0
 go_wp2_with fail
 refine (xET w2 base g gm _ _ H2.out).mono ?_
 rintro e w3 ⟨rfl, h3, o3⟩
 have H3 := kH h3
 have O3 := kH (O2.out.trans (o3.mono (fun k hk => by simp at hk; simp [hk])) (Fresh.refl _ _))
 clear h3 o3
 go_wp2
 go_end0
 exact ⟨rfl, _, ⟨gm, _, rfl, H3.out⟩, O3.out, fun k hk => .inl (by simp [rowOf, Value.ownBlock] at hk; rcases hk with rfl | rfl <;> simp)⟩
end
section
open Go.RowKit Go.Shelf
section
variable {F : Fence} {nF : Nat} {P : Program} {ops : Array Oper} {rest : List Oper} {o : Oper} {a : Act} {w : World} {Q : Exit -> Act -> World -> Prop}
theorem x3O (hg : o.guard = none) (ty : TypeId) (x : Operand) (ho : o.op = .load ty x)
 (b off : Nat) (hx : a.eval x = .pointer (some ⟨b, off, none⟩)) (cs : List Value) (d : TypeDesc) (hc : w.rangeAt b off cs)
 (hu : P.underlying ty = some d) (hd : d.isRow = true) (hi : (P.info? ty).map (·.size) = some cs.length)
 (h : wpListIn F nF P ops Q rest (a.put o.dst (.agg cs.toArray)) w) : wpListIn F nF P ops Q (o :: rest) a w := by
 refine wpListIn_plain hg fun K' hK' => ?_
 unfold Oper.wpIn
 refine ⟨by simp [Oper.about, ho], ?_⟩
 rw [Oper.semAt_plain F _ _ (by rw [ho]; intro c hc'; cases hc')]
 unfold execOp
 simp only [ho, hx, Instr.loadAt, Instr.sureAddr, Sem.run_bind, Sem.run_pure, kS, run_loadVar_mid w b off ty cs d hc hu hd hi]
 exact hK' _ _ h
theorem x2C (hg : o.guard = none) (ty : TypeId) (x y : Operand) (ho : o.op = .store ty x y)
 (b off : Nat) (cells : Array Value) (hx : a.eval x = .pointer (some ⟨b, off, none⟩)) (hy : a.eval y = .agg cells)
 (ht : w.there b off cells.size) (hi : (P.info? ty).map (·.size) = some cells.size) (h1 : cells.all (·.oneCell') = true)
 (h : wpListIn F nF P ops Q rest (a.put o.dst undef) (w.setCells b off cells.toList)) : wpListIn F nF P ops Q (o :: rest) a w := by
 refine wpListIn_plain hg fun K' hK' => ?_
 unfold Oper.wpIn
 refine ⟨by simp [Oper.about, ho], ?_⟩
 rw [Oper.semAt_plain F _ _ (by rw [ho]; intro c hc'; cases hc')]
 unfold execOp
 simp only [ho, hx, hy, Instr.storeAt, Instr.sureAddr, Sem.run_bind, Sem.run_pure, kS, run_storeVar_mid w b off ty cells ht hi h1]
 exact hK' _ _ h
theorem x7H (hg : o.guard = none) (ty : TypeId) (x y : Operand) (ho : o.op = .store ty x y)
 (cells : List Value) (Z : Array Value) (hx : a.eval x = .pointer (some ⟨w.heap.size, 0, none⟩)) (hy : a.eval y = .agg cells.toArray) (hi : (P.info? ty).map (·.size) = some cells.length) (hz : Z.size = cells.length) (h1 : ∀ v ∈ cells, v.oneCell' = true)
 (h : wpListIn F nF P ops Q rest (a.put o.dst undef) (w.alloc (.cells cells.toArray ty))) : wpListIn F nF P ops Q (o :: rest) a (w.alloc (.cells Z ty)) := by
 refine wpListIn_plain hg fun K' hK' => ?_
 unfold Oper.wpIn
 refine ⟨by simp [Oper.about, ho], ?_⟩
 rw [Oper.semAt_plain F _ _ (by rw [ho]; intro c hc'; cases hc')]
 have hr := run_storeAt_new (P := P) w ty Z cells.toArray (by simpa using hi) (by simpa using hz) (all_oneCell_toArray h1)
 unfold execOp
 simp only [ho, hx, hy, Sem.run_bind, hr, kS]
 exact hK' _ _ h
end
end
section
open Go.RowKit Go.Shelf
attribute [local go_sem] Oper.semAt_some
def back (L : List (Int × Sec)) (k : Nat) : List (Nat × (Int × Sec)) := (List.range k).map fun j => (L.length - 1 - j, L[L.length - 1 - j]?.getD (0, Sec.zero))
theorem xIX (L : List (Int × Sec)) (k : Nat) : back L (k + 1) = back L k ++ [(L.length - 1 - k, L[L.length - 1 - k]?.getD (0, Sec.zero))] := by simp [back, range_succ]
theorem xM4 (L : List (Int × Sec)) (k : Nat) : (back L k).length = k := by simp [back]
theorem xE9 (L : List (Int × Sec)) (k : Nat) (hk : k <= L.length) : (back L k).map (·.2) = L.reverse.take k := by
 apply List.ext_getElem
 ·simp [back]; omega
 ·intro j h1 h2
  have hj : j < k := by simp [back] at h1; exact h1
  simp only [back, map_map, List.getElem_map, List.getElem_range, Function.comp, List.getElem_take, List.getElem_reverse]
  rw [List.getElem?_eq_getElem (by omega)]
  rfl
theorem xJT (L : List (Int × Sec)) (i : Int) (h : ∀ p ∈ back L L.length, p.2.1 ≠ i) : lastOf i L = none := by
 have hm := xE9 L L.length (kR _)
 rw [take_of_length_le (by simp)] at hm
 unfold lastOf
 rw [<- hm, Option.map_eq_none_iff, List.find?_eq_none]
 intro x hx
 obtain ⟨p, hp, rfl⟩ := List.mem_map.1 hx
 simpa using h p hp
theorem xKY (L : List (Int × Sec)) (i : Int) (k : Nat) (hk : k <= L.length) (ini : List (Nat × (Int × Sec))) (x : Nat × (Int × Sec)) (e : back L k = ini ++ [x]) (h : ∀ p ∈ ini, p.2.1 ≠ i) (hx : x.2.1 = i) : lastOf i L = some x.2.2 := by
 have hm := xE9 L k hk
 rw [e] at hm
 have hr : L.reverse = (ini.map (·.2) ++ [x.2]) ++ L.reverse.drop k := by
  have := take_append_drop k L.reverse
  rw [<- hm] at this
  rw [map_append, map_cons, map_nil] at this
  exact this.symm
 unfold lastOf
 rw [hr, append_assoc, List.find?_append, List.find?_eq_none.2 (fun y hy => by
  obtain ⟨p, hp, rfl⟩ := List.mem_map.1 hy
  simpa using h p hp)]
 simp [hx]
def encB (x : Nat × (Int × Sec)) : Array Value := #[.int .i64 (x.1 : Int), .agg (wrc x.2).toArray]
theorem xML (F : Fence) (n : Nat) (hF : ∀ k, F.fn k) (hro : F.round = none) (hn : 1 <= n) (l Bs n₀ base : Nat) (A : OA) (cap : Nat) (L : List (Int × Sec)) (hL : L.length <= 1000000) (J Jx : List (Nat × (Int × Sec)) -> World -> Prop)
 (hY : ∀ pre x W, J pre W -> pre.length < L.length -> YieldAt F (n - 1) prog l (encB x) W fun e W' =>
 (e = .returned (.bool true) /\ J (pre ++ [x]) W' /\ Below n₀ W W') ∨ (e = .returned (.bool false) /\ Jx (pre ++ [x]) W'))
 (W : World) (hBs : Bs < n₀) (hBc : W.cell? ⟨Bs, 0, none⟩ = some (.slice A L.length cap)) (hrow : W.ownsRow base 208 129 (.slice A L.length cap) L.length (L.flatMap wrc)) (hlt : ∀ k, k ∈ rowOf (.slice A L.length cap) -> k < n₀) (h0 : J [] W) :
  CallsIn F n prog 281 #[.func (.yield l) #[] #[], .pointer (some ⟨Bs, 0, none⟩)] W fun e W' => (∃ v, e = .returned v) ∧
   ((∃ ys, ys = back L L.length /\ J ys W') ∨ (∃ pre, (∃ k, k <= L.length /\ pre = back L k) /\ Jx pre W')) := by
 refine callsIn_of_wp func281 rfl (hF _) ?_ hro
 simp only [ntmps281, size_toArray, length_cons, length_nil, Nat.reduceAdd, Nat.reduceSub, Array.replicate_succ, Array.replicate_zero, push_toArray, append_toArray, nil_append, cons_append]
 have Hrow := kH hrow
 have Hlt := kH hlt
 have HY := kH hY
 clear hrow hlt hY
 gi_wp2
 gi_loopw [3] (fun i wr => ∃ k : Nat, k <= L.length /\ i = .int .i64 ((L.length : Int) - 1 - k) /\ J (back L k) wr /\ Below n₀ W wr)
  (fun i _ => (intOf i + 1).toNat)
 case atStart => exact ⟨0, kY _, by simp, h0, kB _ _⟩
 case round =>
  obtain ⟨k, hk, rfl, hJs, hnx⟩ := hrel
  have hc1 : wr.cell? ⟨Bs, 0, none⟩ = some (.slice A L.length cap) := (hnx.cell (p := ⟨Bs, 0, none⟩) hBs).trans hBc
  by_cases hlt : k < L.length
  ·have hrw := x06 (w' := wr) Hrow.out (fun j hj => hnx.block j (Hlt.out j hj))
   obtain ⟨j, hj⟩ : ∃ j : Nat, j = L.length - 1 - k := ⟨_, rfl⟩
   have hji : (L.length : Int) - 1 - k = (j : Int) := by omega
   obtain ⟨gw, x, rfl, hnc, hx, hr, hbg, hgl⟩ := xL9 x2D hrw rfl (show j < L.length by omega)
   have hxx : L[L.length - 1 - k]?.getD (0, Sec.zero) = x := by rw [<- hj, hx]; rfl
   obtain ⟨fn, tmps, assign, body, hy, hR⟩ := HY.out _ (j, x) wr hJs (by rw [xM4]; exact hlt)
   have Hs := kH (show back L (k + 1) = back L k ++ [(j, x)] by rw [xIX, hxx, hj])
   have hjl : j < L.length := by omega
   have hu := underlying208
   have hi : (prog.info? 208).map (·.size) = some (wrc x).length := by rw [x2D]; exact x6B
   have Hj := kH hj
   have Hji := kH hji
   clear hxx hx hj
   rw [hji]
   clear hji
   dsimp only [encB] at hy
   gi_wp2_with (refine x3O rfl 208 (.tmp 15) rfl gw (j * 129) rfl (wrc x) _ hr hu rfl hi ?_)
   refine hR.mono ?_
   rintro e W3 (⟨rfl, hJ3, hk3⟩ | ⟨rfl, hJx3⟩)
   ·gi_wp2
    go_roundw
    case rel => exact ⟨k + 1, by omega, by have := Hji.out; congr 1; omega, by rw [Hs.out]; exact hJ3, hnx.trans hk3⟩
    case measure => simp [intOf]
   ·gi_wp2
    refine bodyPost_ret (results_none rfl _ _ _) rfl ?_
    exact ⟨⟨_, rfl⟩, .inr ⟨_, ⟨k + 1, by omega, Hs.out.symm⟩, hJx3⟩⟩
  ·obtain rfl : k = L.length := by omega
   gi_wp2
   go_end0
   exact ⟨⟨_, rfl⟩, .inl ⟨_, rfl, hJs⟩⟩
theorem xCY (a : OA) (len cap : Nat) (w : World) :
  Calls prog 256 #[.slice a len cap] w fun e w' => e = .returned (.func (.func 281) #[] #[.pointer (some ⟨w.heap.size, 0, none⟩)]) /\ w' = w.alloc (.cells #[.slice a len cap] 104) := by
 go_enter func256, ntmps256
 go_wp2
 go_ret
 exact ⟨rfl, rfl⟩
theorem xH4 (F : Fence) (n : Nat) (hF : ∀ k, F.fn k) (hro : F.round = none) (hn : 1 <= n) (Bs n₀ base : Nat) (A : OA) (cap : Nat) (L : List (Int × Sec)) (hL : L.length <= 1000000) (w : World) (hBs : Bs < n₀) (hn₀ : n₀ <= w.heap.size)
 (hc : w.cell? ⟨Bs, 0, none⟩ = some (.slice A L.length cap)) (hrow : w.ownsRow base 208 129 (.slice A L.length cap) L.length (L.flatMap wrc)) (hlt : ∀ k, k ∈ rowOf (.slice A L.length cap) -> k < n₀) :
  SeqStopsK F n prog 281 #[.pointer (some ⟨Bs, 0, none⟩)] encB (Below n₀) (fun ys => ys = back L L.length) (fun pre => ∃ k, k <= L.length /\ pre = back L k) L.length w := fun l J Jx W hW _ _ hY h0 =>
 xML F n hF hro hn l Bs n₀ base A cap L hL J Jx hY W hBs ((hW.cell (p := ⟨Bs, 0, none⟩) (by show Bs < w.heap.size; omega)).trans hc) (x06 hrow (fun j hj => hW.block j (by have := hlt j hj; omega))) hlt h0
end
end Go.Proofs.YtpogpajjemaagaaGreatDoor
