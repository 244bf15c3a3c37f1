/-
  Words for memory, plain: a slice value that reads as a list of cells, of bytes; a block that is known whole. No condition; nothing of the program is named.
-/
import Derived.Below
import Derived.Laws.OwnMore
import Derived.Deep.AppendLies
import Derived.Deep.Draws
import Derived.Laws.Rows
import Derived.Lib.Hide
import Derived.Maps.AppendAt
import Derived.RegionTactic
import Derived.OwnWalk
import Derived.Laws.BitsAllLaws
import Derived.WalkKit
import Derived.ProofKit
import Derived.Test.YtiimanoloedbeaaRows
import Derived.Handy
import Derived.WalkLawsBesides
import Derived.WalkSpells
import Derived.MapKept
import Derived.Maps.Own
import Derived.Tactics
import Derived.Deep.MidRow
import Derived.Laws.BytesArg
import Derived.Outline
import Derived.Deep.RegionHeld3
import Derived.Great.FillDense
import Derived.Laws.Tables
import Derived.Great.BuildSlice
import Derived.KernelRfl
import Derived.Deep.WholeRow
import Derived.Lib.ConvBytes
import Derived.Laws.CopyOwn
import Derived.Laws.MakeOwn
import Derived.Deep.QuietTactic
import Derived.BigQuiet
import Derived.WideShapes
import Derived.Laws.Strings
import Derived.Deep.LoopGhost
import Derived.Deep.RegionWith
import Derived.Deep.CutRange

namespace Go.Proofs.Ytiimanoloedbeaa
open Go.RowKit

theorem block_of_add (a : Addr) (n : Nat) : (a.add n).block = a.block := by unfold Addr.add; split <;> rfl
theorem add_of_add (a : Addr) (i j : Nat) : (a.add i).add j = a.add (i + j) := by
  unfold Addr.add
  by_cases hi : i = 0 <;> by_cases hj : j = 0 <;> simp [hi, hj, Nat.add_assoc]

/-- the slice value at A holds the cells xs and lies below block B -/
def Reads (w : World) (B size : Nat) (A : Option Addr) (n : Nat) (xs : List Value) : Prop :=
  xs.length = n * size ∧ (0 < n → ∃ ad, A = some ad ∧ ad.block < B ∧ ∀ j u, xs[j]? = some u → w.cell? (ad.add j) = some u)

section
variable {w w' : World} {B B' size n : Nat} {A : Option Addr} {xs : List Value}
theorem Reads.none_ : Reads w B size A 0 [] := ⟨by simp, fun h => absurd h (by omega)⟩
theorem Reads.at_ {k : Nat} (h : Reads w B 1 A n xs) (hk : k < n) : ∃ ad u, A = some ad ∧ ad.block < B ∧ xs[k]? = some u ∧ w.cell? (ad.add k) = some u := by
  obtain ⟨ad, e, hb, hc⟩ := h.2 (by omega)
  have hl : k < xs.length := by have := h.1; omega
  exact ⟨ad, xs[k], e, hb, List.getElem?_eq_getElem hl, hc k _ (List.getElem?_eq_getElem hl)⟩
theorem Reads.keep (h : Reads w B size A n xs) (hk : ∀ p : Addr, p.block < B → w'.cell? p = w.cell? p) : Reads w' B size A n xs :=
  ⟨h.1, fun hn => by
    obtain ⟨ad, e, hb, hc⟩ := h.2 hn
    exact ⟨ad, e, hb, fun j u hu => (hk _ (by rw [block_of_add]; exact hb)).trans (hc j u hu)⟩⟩
theorem Reads.more (h : Reads w B size A n xs) (hB : B ≤ B') : Reads w B' size A n xs :=
  ⟨h.1, fun hn => by
    obtain ⟨ad, e, hb, hc⟩ := h.2 hn
    exact ⟨ad, e, by omega, hc⟩⟩
theorem Reads.below (h : Reads w B size A n xs) (hb : Below B w w') : Reads w' B size A n xs := h.keep fun _ hp => hb.cell hp
theorem Reads.drew (h : Reads w B size A n xs) : Reads w.drew B size A n xs := h
theorem Reads.drewN (h : Reads w B size A n xs) (k : Nat) : Reads (w.drewN k) B size A n xs := h
theorem Reads.alloc (h : Reads w B size A n xs) (hB : B ≤ w.heap.size) (o : Obj) : Reads (w.alloc o) B size A n xs := h.keep fun p hp => World.cell?_alloc_lt w o p (by omega)
theorem Reads.setCell (h : Reads w B size A n xs) {p : Addr} (hB : B ≤ p.block) (u : Value) : Reads (w.setCell p u) B size A n xs :=
  h.keep fun q hq => World.cell?_setCell_other w p q u (fun e => by subst e; omega)
theorem Reads.grown (h : Reads w B size A n xs) {row : Option Nat} (hg : w.grownBy w' row) (hB : B ≤ w.heap.size) (hr : ∀ g, row = some g → B ≤ g) : Reads w' B size A n xs :=
  h.keep fun p hp => World.cell?_of_block (hg.block p.block (by omega) (fun e => by have := hr _ e.symm; omega))
theorem Reads.take (h : Reads w B 1 A n xs) {k : Nat} (hk : k ≤ n) : Reads w B 1 A k (xs.take k) := by
  refine ⟨by rw [List.length_take, h.1]; omega, fun hn => ?_⟩
  obtain ⟨ad, rfl, hb, hcell⟩ := h.2 (by omega)
  exact ⟨ad, rfl, hb, fun j u hu => hcell j u (by
    rw [List.getElem?_take] at hu
    split at hu
    · exact hu
    · cases hu)⟩
theorem Reads.of_own {base : Nat} {e : TypeId} {c : Nat} (h : w.ownsRow base e size (.slice A n c) n xs) : Reads w w.heap.size size A n xs := by
  refine ⟨h.1, fun hn => ?_⟩
  obtain ⟨g, cap, hv, _, hlt⟩ := h.form hn
  have hA : A = some ⟨g, 0, none⟩ := by injection hv
  subst hA
  exact ⟨_, rfl, hlt, h.cells (g := g) rfl⟩
end

/-- a byte as a value; bytes as values -/
def u8 (b : Nat) : Value := .int .u8 (b : Int)
def u8s (bs : List Nat) : List Value := bs.map u8
/-- the slice value at A, of length n, holds the bytes bs -/
def Bytes (w : World) (B : Nat) (A : Option Addr) (n : Nat) (bs : List Nat) : Prop := Reads w B 1 A n (u8s bs) ∧ ∀ b ∈ bs, b < 256

section
variable {w w' : World} {B B' n : Nat} {A : Option Addr} {bs : List Nat}
theorem u8s_length (bs : List Nat) : (u8s bs).length = bs.length := by simp [u8s]
theorem Bytes.len (h : Bytes w B A n bs) : bs.length = n := by have := h.1.1; rw [u8s_length] at this; omega
theorem Bytes.at_ {k : Nat} (h : Bytes w B A n bs) (hk : k < n) : ∃ (ad : Addr) (b : Nat), A = some ad ∧ bs[k]? = some b ∧ b < 256 ∧ w.cell? (ad.add k) = some (.int .u8 (b : Int)) := by
  obtain ⟨ad, u, e, hb, hx, hc⟩ := h.1.at_ hk
  have hl : k < bs.length := by have := h.len; omega
  refine ⟨ad, bs[k], e, List.getElem?_eq_getElem hl, h.2 _ (List.getElem_mem hl), ?_⟩
  rw [hc, ← hx]
  simp [u8s, u8, hl]
theorem Bytes.at2 {k : Nat} (h : Bytes w B A n bs) (hk : k < n) : ∃ (ad : Addr) (b : Nat), A = some ad ∧ bs[k]? = some b ∧ b < 256 ∧ w.cell? (ad.add k) = some (.int .u8 (b : Int)) ∧ (ad.add k).block < B := by
  obtain ⟨ad, u, e, hb, hx, hc⟩ := h.1.at_ hk
  obtain ⟨ad', b, e', h1, h2, h3⟩ := h.at_ hk
  rw [e] at e'
  injection e' with e'
  subst e'
  exact ⟨ad, b, e, h1, h2, h3, by rw [block_of_add]; exact hb⟩
theorem Bytes.keep (h : Bytes w B A n bs) (hk : ∀ p : Addr, p.block < B → w'.cell? p = w.cell? p) : Bytes w' B A n bs := ⟨h.1.keep hk, h.2⟩
theorem Bytes.more (h : Bytes w B A n bs) (hB : B ≤ B') : Bytes w B' A n bs := ⟨h.1.more hB, h.2⟩
theorem Bytes.below (h : Bytes w B A n bs) (hb : Below B w w') : Bytes w' B A n bs := ⟨h.1.below hb, h.2⟩
theorem Bytes.drew (h : Bytes w B A n bs) : Bytes w.drew B A n bs := h
theorem Bytes.drewN (h : Bytes w B A n bs) (k : Nat) : Bytes (w.drewN k) B A n bs := h
theorem Bytes.alloc (h : Bytes w B A n bs) (hB : B ≤ w.heap.size) (o : Obj) : Bytes (w.alloc o) B A n bs := ⟨h.1.alloc hB o, h.2⟩
theorem Bytes.up (h : Bytes w w.heap.size A n bs) (o : Obj) : Bytes (w.alloc o) (w.alloc o).heap.size A n bs := (h.alloc (Nat.le_refl _) o).more (by simp)
theorem Bytes.take (h : Bytes w B A n bs) {k : Nat} (hk : k ≤ n) : Bytes w B A k (bs.take k) :=
  ⟨by have := h.1.take hk; rwa [u8s, ← List.map_take] at this, fun b hb => h.2 b (List.mem_of_mem_take hb)⟩
theorem Bytes.setCell (h : Bytes w B A n bs) {p : Addr} (hB : B ≤ p.block) (u : Value) : Bytes (w.setCell p u) B A n bs := ⟨h.1.setCell hB u, h.2⟩
theorem Bytes.grown (h : Bytes w B A n bs) {row : Option Nat} (hg : w.grownBy w' row) (hB : B ≤ w.heap.size) (hr : ∀ g, row = some g → B ≤ g) : Bytes w' B A n bs := ⟨h.1.grown hg hB hr, h.2⟩
end
theorem add_zero_off (g j : Nat) : (⟨g, 0, none⟩ : Addr).add j = ⟨g, j, none⟩ := by
  unfold Addr.add
  split
  · simp_all
  · simp
theorem Reads.new (w : World) (cs : List Value) (t : TypeId) (f : Nat × Nat) : Reads (w.alloc (.cells cs.toArray t f)) (w.heap.size + 1) 1 (some ⟨w.heap.size, 0, none⟩) cs.length cs := by
  refine ⟨by simp, fun _ => ⟨_, rfl, Nat.lt_succ_self _, fun j u hu => ?_⟩⟩
  rw [add_zero_off, cell_of_row _ _ _ _ _ _ (heap_alloc_new w _)]
  simpa using hu
theorem Reads.newN (w : World) (cs : List Value) (n size : Nat) (t : TypeId) (f : Nat × Nat) (hn : cs.length = n * size) : Reads (w.alloc (.cells cs.toArray t f)) (w.heap.size + 1) size (some ⟨w.heap.size, 0, none⟩) n cs :=
  ⟨hn, fun h0 => ⟨_, rfl, Nat.lt_succ_self _, fun j u hu => by
    rw [add_zero_off, cell_of_row _ _ _ _ _ _ (heap_alloc_new w _)]
    simpa using hu⟩⟩
theorem Bytes.new (w : World) (bs : List Nat) (t : TypeId) (f : Nat × Nat) (hb : ∀ b ∈ bs, b < 256) : Bytes (w.alloc (.cells (u8s bs).toArray t f)) (w.heap.size + 1) (some ⟨w.heap.size, 0, none⟩) bs.length bs :=
  ⟨by have := Reads.new w (u8s bs) t f; rwa [u8s_length] at this, hb⟩
theorem oneCell_u8s (bs : List Nat) : ∀ u ∈ u8s bs, u.oneCell' = true := by
  intro u hu
  obtain ⟨b, _, rfl⟩ := List.mem_map.1 hu
  rfl
theorem take_snoc {l : List Nat} {k b : Nat} (h : l[k]? = some b) : l.take (k + 1) = l.take k ++ [b] := by
  rw [List.take_add_one, h]; rfl
theorem below_drewN {B : Nat} {a w : World} (h : Below B a w) (n : Nat) : Below B a (w.drewN n) := ⟨h.os, h.tape, h.output, h.size, h.block⟩
theorem ret_int {k : IntKind} {a b : Int} (h : a = b) : Ending.returned (.int k a) = .returned (.int k b) := by rw [h]

/-! ### a block known whole -/
def Blk (w : World) (g : Nat) (t : TypeId) (cs : Array Value) : Prop := w.heap[g]? = some (.cells cs t (0, 0))

section
variable {w w' : World} {g : Nat} {t : TypeId} {cs : Array Value}
theorem Blk.lt (h : Blk w g t cs) : g < w.heap.size := by
  rcases Nat.lt_or_ge g w.heap.size with hlt | hge
  · exact hlt
  · unfold Blk at h; rw [Array.getElem?_eq_none hge] at h; cases h
theorem Blk.cell (h : Blk w g t cs) (i : Nat) : w.cell? ⟨g, i, none⟩ = cs[i]? := cell_of_row w g i cs t (0, 0) h
theorem Blk.frozen (h : Blk w g t cs) (i : Nat) : w.frozen? ⟨g, i, none⟩ = false := by
  unfold Blk at h
  simp [World.frozen?, h]
theorem Blk.new (w : World) (t : TypeId) (cs : Array Value) : Blk (w.alloc (.cells cs t)) w.heap.size t cs := heap_alloc_new w _
theorem Blk.drew (h : Blk w g t cs) : Blk w.drew g t cs := h
theorem Blk.drewN (h : Blk w g t cs) (n : Nat) : Blk (w.drewN n) g t cs := h
theorem Blk.alloc (h : Blk w g t cs) (o : Obj) : Blk (w.alloc o) g t cs := (Below.heap_alloc w o g h.lt).trans h
theorem Blk.set_ (h : Blk w g t cs) (i : Nat) (u : Value) : Blk (w.setCell ⟨g, i, none⟩ u) g t (cs.setIfInBounds i u) := by
  unfold Blk at h ⊢
  simp [World.setCell, Array.getElem?_modify, h]
theorem Blk.far (h : Blk w g t cs) {p : Addr} (hp : g ≠ p.block) (u : Value) : Blk (w.setCell p u) g t cs := (Below.heap_setCell w p u g hp).trans h
theorem Blk.below {B : Nat} (h : Blk w g t cs) (hb : Below B w w') (hg : g < B) : Blk w' g t cs := (hb.block g hg).trans h
theorem Blk.grown {row : Option Nat} (h : Blk w g t cs) (hb : w.grownBy w' row) (hg : some g ≠ row) : Blk w' g t cs := (hb.block g h.lt hg).trans h
theorem Blk.ne_ {g' : Nat} {t' : TypeId} {cs' : Array Value} (h : Blk w g t cs) (h' : Blk w g' t' cs') (hne : t ≠ t') : g ≠ g' := by
  rintro rfl
  unfold Blk at h h'
  rw [h] at h'
  injection h' with h'
  injection h' with _ ht
  exact hne ht
theorem own_blk_ne {base : Nat} {e : TypeId} {size n : Nat} {v : Value} {xs : List Value} (h : w.ownsRow base e size v n xs) (hg : Blk w g t cs) (hne : e ≠ t) : v.ownBlock ≠ some g := by
  rcases h.2 with ⟨rfl, _⟩ | ⟨g', cap, cur, rfl, _, hh, _⟩
  · simp [Value.ownBlock]
  · intro he
    have : g' = g := by simpa [Value.ownBlock] using he
    subst this
    exact Blk.ne_ (t := e) hh hg hne rfl
end

/-! ### append onto a row of the call's own -/
section
variable {P : Program} (w : World)

theorem run_append_of_nil (base : Nat) (t ty e : TypeId) (i : TypeInfo) (size : Nat) (ht : P.underlying t = some (.slice e)) (hi : P.info? e = some i)
    (v : Value) (n : Nat) (xs : List Value) (hown : w.ownsRow base e size v n xs) (c : Nat) : (Builtin.append_ #[t, t] ty #[v, .slice none 0 c]).run P w = .ok v w := by
  rcases hown.2 with ⟨rfl, rfl⟩ | ⟨g, cap, cur, rfl, _, _, hnc, _⟩
  · simp [Builtin.append_, run_underlying ht, sizeOf, typeInfo, hi, Builtin.lenOf, Builtin.firstCells]
  · simp [Builtin.append_, run_underlying ht, sizeOf, typeInfo, hi, Builtin.lenOf, Builtin.firstCells, hnc, storeCells]

theorem run_append_any (base : Nat) (t ty e : TypeId) (i : TypeInfo) (z : Value) (size bytes : Nat) (ht : P.underlying t = some (.slice e)) (hi : P.info? e = some i) (hz : i.zero = some z)
    (hsize : i.size = size) (hby : i.bytes = bytes) (hzs : z.cells.size = size) (hsz : 0 < size)
    (v : Value) (n : Nat) (xs : List Value) (hown : w.ownsRow base e size v n xs)
    (B : Nat) (A : Option Addr) (m c : Nat) (news : List Value) (hr : Reads w B size A m news) (h1 : ∀ u ∈ news, u.oneCell' = true)
    (h63 : n + m ≤ maxLen) (hbytes : (n + m) * bytes ≤ 140737488355328) (hbase : base ≤ w.heap.size) :
    ∃ v' w', (Builtin.append_ #[t, t] ty #[v, .slice A m c]).run P w = .ok v' w' ∧ w'.ownsRow base e size v' (n + m) (xs ++ news) ∧ w.grownBy w' v.ownBlock ∧
      (v'.ownBlock = v.ownBlock ∨ v'.ownBlock = some w.heap.size) := by
  rcases A with _ | ad
  · have hm : m = 0 := by
      rcases Nat.eq_zero_or_pos m with h0 | h0
      · exact h0
      · obtain ⟨ad, h, _⟩ := hr.2 h0
        cases h
    subst hm
    have hn : news = [] := List.eq_nil_of_length_eq_zero (by simpa using hr.1)
    subst hn
    exact ⟨v, w, run_append_of_nil w base t ty e i size ht hi v n xs hown c, by simpa using hown, World.grownBy.refl w _, .inl rfl⟩
  · have hcells : ∀ j u, news[j]? = some u → w.cell? (ad.add j) = some u := by
      intro j u hu
      rcases Nat.eq_zero_or_pos m with h0 | h0
      · subst h0
        have hn : news = [] := List.eq_nil_of_length_eq_zero (by simpa using hr.1)
        subst hn
        simp at hu
      · obtain ⟨ad', h, _, hc⟩ := hr.2 h0
        injection h with h
        subst h
        exact hc j u hu
    obtain ⟨v', w', hrun, h2, h3, _, h5⟩ := run_append_own_at (P := P) w base t ty e i z size bytes ht hi hz hsize hby hzs hsz v n xs hown ad m c news hr.1 hcells h1 h63 hbytes hbase
    exact ⟨v', w', hrun, h2, h3, h5⟩

theorem wp_append_any {o : Oper} {a : Act} {K : Act → World → Prop} {Q : Exit → Act → World → Prop} (s x : Operand) (t : TypeId)
    (ho : o.op = .call { callee := .builtin .append, args := #[s, x], argTypes := #[t, t] })
    (base : Nat) (e : TypeId) (i : TypeInfo) (z : Value) (size bytes : Nat) (ht : P.underlying t = some (.slice e)) (hi : P.info? e = some i) (hz : i.zero = some z)
    (hsize : i.size = size) (hby : i.bytes = bytes) (hzs : z.cells.size = size) (hsz : 0 < size)
    (v : Value) (n : Nat) (xs : List Value) (hs : a.eval s = v) (hown : w.ownsRow base e size v n xs)
    (B : Nat) (A : Option Addr) (m c : Nat) (news : List Value) (hx : a.eval x = .slice A m c) (hr : Reads w B size A m news) (h1 : ∀ u ∈ news, u.oneCell' = true)
    (h63 : n + m ≤ maxLen) (hbytes : (n + m) * bytes ≤ 140737488355328) (hbase : base ≤ w.heap.size)
    (h : ∀ v' w', w'.ownsRow base e size v' (n + m) (xs ++ news) → w.grownBy w' v.ownBlock → (v'.ownBlock = v.ownBlock ∨ v'.ownBlock = some w.heap.size) → K (a.put o.dst v') w') : o.wp P a w K Q := by
  obtain ⟨v', w', hrun, h2, h3, h4⟩ := run_append_any (P := P) w base t o.type e i z size bytes ht hi hz hsize hby hzs hsz v n xs hown B A m c news hr h1 h63 hbytes hbase
  unfold Oper.wp execOp
  simp only [ho, resolve, invoke, builtin, Sem.run_bind, Sem.run_pure, Result.andThen_ok, List.map_toArray, List.map_cons, List.map_nil, hs, hx, hrun]
  exact h v' w' h2 h3 h4

theorem wpList_append_any {ops : Array Oper} {rest : List Oper} {o : Oper} {a : Act} {Q : Exit → Act → World → Prop} (hgd : o.guard = none) (s x : Operand) (t : TypeId)
    (ho : o.op = .call { callee := .builtin .append, args := #[s, x], argTypes := #[t, t] })
    (base : Nat) (e : TypeId) (i : TypeInfo) (z : Value) (size bytes : Nat) (ht : P.underlying t = some (.slice e)) (hi : P.info? e = some i) (hz : i.zero = some z)
    (hsize : i.size = size) (hby : i.bytes = bytes) (hzs : z.cells.size = size) (hsz : 0 < size)
    (v : Value) (n : Nat) (xs : List Value) (hs : a.eval s = v) (hown : w.ownsRow base e size v n xs)
    (B : Nat) (A : Option Addr) (m c : Nat) (news : List Value) (hx : a.eval x = .slice A m c) (hr : Reads w B size A m news) (h1 : ∀ u ∈ news, u.oneCell' = true)
    (h63 : n + m ≤ maxLen) (hbytes : (n + m) * bytes ≤ 140737488355328) (hbase : base ≤ w.heap.size)
    (h : ∀ v' w', w'.ownsRow base e size v' (n + m) (xs ++ news) → w.grownBy w' v.ownBlock → (v'.ownBlock = v.ownBlock ∨ v'.ownBlock = some w.heap.size) → wpList P ops Q rest (a.put o.dst v') w') : wpList P ops Q (o :: rest) a w :=
  wpList_plain hgd fun _ hK => wp_append_any w s x t ho base e i z size bytes ht hi hz hsize hby hzs hsz v n xs hs hown B A m c news hx hr h1 h63 hbytes hbase fun v' w' h2 h3 h4 => hK _ _ (h v' w' h2 h3 h4)

end

end Go.Proofs.Ytiimanoloedbeaa

/-
  Marks, plain: a row's marks, their bytes, and back; which may have changed. No condition; nothing of the program is named.
-/
namespace Go.Proofs.Ytiimanoloedbeaa
set_option linter.unusedSimpArgs false
set_option linter.unusedVariables false
/-- a mark; 0 beyond the row -/
def mk (m : List Nat) (i : Nat) : Nat := (m[i]?).getD 0
theorem mk_at {m : List Nat} {i x : Nat} (h : m[i]? = some x) : mk m i = x := by simp [mk, h]
theorem mk_over {m : List Nat} {i : Nat} (h : m.length ≤ i) : mk m i = 0 := by simp [mk, List.getElem?_eq_none h]
theorem mk_take (m : List Nat) (i k : Nat) : mk (m.take i) k = if k < i then mk m k else 0 := by
  unfold mk
  rw [List.getElem?_take]
  split <;> rfl
theorem mk_le {m : List Nat} (h : ∀ x ∈ m, x ≤ 3) (i : Nat) : mk m i ≤ 3 := by
  by_cases hi : i < m.length
  · rw [mk_at (List.getElem?_eq_getElem hi)]
    exact h _ (List.getElem_mem hi)
  · rw [mk_over (by omega)]; omega
theorem mk_lt {m : List Nat} (h : ∀ x ∈ m, x < 256) (i : Nat) : mk m i < 256 := by
  by_cases hi : i < m.length
  · rw [mk_at (List.getElem?_eq_getElem hi)]
    exact h _ (List.getElem_mem hi)
  · rw [mk_over (by omega)]; omega
/-- the byte of four marks -/
def packB (m : List Nat) (j : Nat) : Nat := mk m (4 * j) + 4 * mk m (4 * j + 1) + 16 * mk m (4 * j + 2) + 64 * mk m (4 * j + 3)
def packs (m : List Nat) (k : Nat) : List Nat := (List.range k).map (packB m)
theorem packs_len (m : List Nat) (k : Nat) : (packs m k).length = k := by simp [packs]
theorem packs_at (m : List Nat) {k j : Nat} (h : j < k) : (packs m k)[j]? = some (packB m j) := by simp [packs, h]
/-- marks as bytes -/
def putM (m : List Nat) : List Nat := [m.length % 256, m.length / 256] ++ packs m ((m.length + 3) / 4)
theorem putM_len (m : List Nat) : (putM m).length = 2 + (m.length + 3) / 4 := by simp [putM, packs_len]; omega
def Good (m : List Nat) : Prop := m.length ≤ 256 ∧ ∀ x ∈ m, x ≤ 3
instance (m : List Nat) : Decidable (Good m) := by unfold Good; infer_instance
theorem or_add : ∀ r, r < 4 → ∀ a, a < 4 ^ r → ∀ x, x < 4 → a ||| (x <<< (2 * r)) = a + x * 4 ^ r ∧ x <<< (2 * r) < 256 := by decide
theorem part_lt {m : List Nat} (h : ∀ x ∈ m, x ≤ 3) (i : Nat) : packB (m.take i) (i / 4) < 4 ^ (i % 4) := by
  obtain ⟨q, r, hr, rfl⟩ : ∃ q r, r < 4 ∧ i = 4 * q + r := ⟨i / 4, i % 4, by omega, by omega⟩
  have e1 : (4 * q + r) / 4 = q := by omega
  have e2 : (4 * q + r) % 4 = r := by omega
  rw [e1, e2]
  unfold packB
  simp only [mk_take]
  have h0 := mk_le h (4 * q)
  have h1 := mk_le h (4 * q + 1)
  have h2 := mk_le h (4 * q + 2)
  match r, hr with
  | 0, _ => rw [Nat.pow_zero]; repeat' split
            all_goals omega
  | 1, _ => simp; omega
  | 2, _ => simp; omega
  | 3, _ => simp; omega
/-- one mark more -/
theorem part_step {m : List Nat} (h : ∀ x ∈ m, x ≤ 3) (i : Nat) : packB (m.take i) (i / 4) ||| (mk m i <<< (2 * (i % 4))) = packB (m.take (i + 1)) (i / 4) := by
  have hlt := part_lt h i
  rw [(or_add (i % 4) (by omega) _ hlt (mk m i) (by have := mk_le h i; omega)).1]
  obtain ⟨q, r, hr, rfl⟩ : ∃ q r, r < 4 ∧ i = 4 * q + r := ⟨i / 4, i % 4, by omega, by omega⟩
  have e1 : (4 * q + r) / 4 = q := by omega
  have e2 : (4 * q + r) % 4 = r := by omega
  rw [e1, e2]
  unfold packB
  simp only [mk_take]
  clear hlt
  match r, hr with
  | 0, _ => simp only [Nat.pow_zero, Nat.add_zero]; repeat' split
            all_goals omega
  | 1, _ => simp only [Nat.pow_one]; repeat' split
            all_goals omega
  | 2, _ => simp only [show (4 : Nat) ^ 2 = 16 from rfl]; repeat' split
            all_goals omega
  | 3, _ => simp only [show (4 : Nat) ^ 3 = 64 from rfl]; repeat' split
            all_goals omega
theorem part_other (m : List Nat) (i j : Nat) (hj : j ≠ i / 4) : packB (m.take (i + 1)) j = packB (m.take i) j := by
  unfold packB
  simp only [mk_take]
  have e : ∀ k, k < 4 → ((if 4 * j + k < i + 1 then mk m (4 * j + k) else 0) = if 4 * j + k < i then mk m (4 * j + k) else 0) := fun k hk => by
    by_cases h1 : 4 * j + k < i
    · rw [if_pos h1, if_pos (by omega)]
    · rw [if_neg h1, if_neg (by omega)]
  have e0 := e 0 (by omega)
  rw [Nat.add_zero] at e0
  rw [e0, e 1 (by omega), e 2 (by omega), e 3 (by omega)]
/-- the bytes behind i marks -/
def part (m : List Nat) (i : Nat) : List Nat := [m.length % 256, m.length / 256] ++ packs (m.take i) ((m.length + 3) / 4)
theorem part_all (m : List Nat) : part m m.length = putM m := by simp [part, putM]
theorem part_at (m : List Nat) (i : Nat) (h : i < m.length) : (part m i)[2 + i / 4]? = some (packB (m.take i) (i / 4)) := by
  unfold part
  rw [List.getElem?_append_right (by simp), show 2 + i / 4 - [m.length % 256, m.length / 256].length = i / 4 by simp, packs_at _ (by omega)]
theorem part_set {m : List Nat} (hg : ∀ x ∈ m, x ≤ 3) (i : Nat) (h : i < m.length) : (part m i).set (2 + i / 4) (packB (m.take i) (i / 4) ||| (mk m i <<< (2 * (i % 4)))) = part m (i + 1) := by
  rw [part_step hg]
  unfold part
  rw [List.set_append_right _ _ (by simp), show 2 + i / 4 - [m.length % 256, m.length / 256].length = i / 4 by simp]
  congr 1
  apply List.ext_getElem?
  intro j
  rw [List.getElem?_set]
  by_cases hj : i / 4 = j
  · subst hj
    rw [if_pos rfl, packs_len, if_pos (by omega), packs_at _ (by omega)]
  · rw [if_neg hj]
    by_cases hl : j < (m.length + 3) / 4
    · rw [packs_at _ hl, packs_at _ hl, part_other m i j (Ne.symm hj)]
    · rw [List.getElem?_eq_none (by rw [packs_len]; omega), List.getElem?_eq_none (by rw [packs_len]; omega)]
/-- a mark of bytes -/
def unp (b : List Nat) (i : Nat) : Nat := mk b (2 + i / 4) / 4 ^ (i % 4) % 4
def takeM (b : List Nat) (n : Nat) : List Nat := (List.range n).map (unp b)
/-- how many marks bytes say they hold -/
def countOf (b : List Nat) : Nat := mk b 0 + 256 * mk b 1
/-- the marks of bytes, where they are some's -/
def TakeOk (b : List Nat) : Prop := 2 ≤ b.length ∧ countOf b ≤ 256 ∧ b.length = 2 + (countOf b + 3) / 4 ∧ putM (takeM b (countOf b)) = b
instance (b : List Nat) : Decidable (TakeOk b) := by unfold TakeOk; infer_instance
/-- 3 in place of 1 -/
def frz (x : Nat) : Nat := if x = 1 then 3 else x
def frozenM (m : List Nat) : List Nat := m.map frz
/-- the first n, filled up -/
def sizedM (m : List Nat) (n : Nat) : List Nat := (List.range n).map (mk m)
theorem sizedM_len (m : List Nat) (n : Nat) : (sizedM m n).length = n := by simp [sizedM]
end Go.Proofs.Ytiimanoloedbeaa

/-
  Numbers as eight bytes, the lowest first, and back; a reader's bytes that are left: plain words. No condition; nothing of the program is named.
-/
namespace Go.Proofs.Ytiimanoloedbeaa
open Go.RowKit
def le : Nat → Nat → List Nat
  | 0, _ => []
  | k + 1, u => u % 256 :: le k (u / 256)
def un : List Nat → Nat
  | [] => 0
  | b :: l => b + 256 * un l
/-- a number of 64 bits, without its sign -/
def nat64 (n : Int) : Nat := (n % 18446744073709551616).toNat
def numB (n : Int) : List Nat := le 8 (nat64 n)
/-- the number of eight bytes -/
def numOf (l : List Nat) : Int := wrap64 (un l : Int)
/-- a reader: the bytes that it hasn't read; is it bad? -/
structure RD where
  bs : List Nat
  bad : Bool
def RD.spoilt : RD := ⟨[], true⟩
/-- the next n bytes are taken -/
def RD.fits (s : RD) (n : Int) : Bool := !s.bad && decide (0 ≤ n) && decide (n ≤ s.bs.length)
def RD.take (s : RD) (n : Int) : RD := if s.fits n then ⟨s.bs.drop n.toNat, false⟩ else .spoilt
def RD.got (s : RD) (n : Int) : List Nat := if s.fits n then s.bs.take n.toNat else []
def RD.Good (s : RD) : Prop := (s.bad = true → s.bs = []) ∧ ∀ b ∈ s.bs, b < 256
theorem RD.spoilt_good : RD.spoilt.Good := ⟨fun _ => rfl, fun b hb => by cases hb⟩
def RD.byte (s : RD) : Nat := (s.got 1).headD 0
def RD.num (s : RD) : Int := numOf (s.got 8)
def RD.flagTo (s : RD) : RD := if 1 < s.byte then .spoilt else s.take 1
def RD.bytesTo (s : RD) : RD := (s.take 8).take s.num
def RD.bytes (s : RD) : List Nat := (s.take 8).got s.num
def RD.many (s : RD) : Bool := decide (0 ≤ s.num) && decide (s.num ≤ ((s.take 8).bs.length / 8 : Nat)) && !(s.take 8).bad
/-- k numbers, one behind the other -/
def RD.run : Nat → RD → RD
  | 0, s => s
  | k + 1, s => (RD.run k s).take 8
def RD.rows (s : RD) : Nat → List Int
  | 0 => []
  | k + 1 => RD.rows s k ++ [(RD.run k s).num]
def RD.numsTo (s : RD) : RD := if s.many then RD.run s.num.toNat (s.take 8) else .spoilt
end Go.Proofs.Ytiimanoloedbeaa

/-
  An error's number. Conditions: the errors are the document's.
-/
namespace Go.Proofs.Ytiimanoloedbeaa
open Go.RowKit
/-- an error's value -/
def errV : Nat → Value
  | 0 => .nilIface
  | k => .iface 46 (.int .i64 k)
theorem num_any (k : Nat) (w : World) : Calls Try.prog 49 #[errV k] w fun e w' => e = .returned (.int .i64 k) ∧ w = w' := by
  cases k with
  | zero =>
    simp only [errV]
    go_enter Try.func49, Try.ntmps49
    go_wp2
    go_ret
    exact ⟨rfl, rfl⟩
  | succ k =>
    simp only [errV]
    have hta : ∀ (n : Int) (w : World), (Instr.typeAssert (.iface 46 (.int .i64 n)) 39 46 true).run Try.prog w = .ok (.tuple #[.int .i64 n, .bool true]) w := fun n w => by kernel_rfl
    have hne : (((k : Int) + 1) == 0) = false := by simp; omega
    have hne2 : (((k : Int) + 1) != 0) = true := by simp; omega
    go_enter Try.func49, Try.ntmps49
    go_wp2
    go_ret
    exact ⟨rfl, rfl⟩
theorem is_any (k j : Nat) (w : World) : Calls Try.prog 16 #[errV k, .int .i64 j] w fun e w' => e = .returned (.bool (k == j)) ∧ w = w' := by
  go_enter Try.func16, Try.ntmps16
  go_wp2_with fail
  refine (num_any k w).mono ?_
  rintro e w' ⟨rfl, rfl⟩
  go_wp2
  go_ret
  exact ⟨by show Ending.returned (.bool ((k : Int) == (j : Int))) = _; rw [show ((k : Int) == (j : Int)) = (k == j) from by rw [Bool.eq_iff_iff, beq_iff_eq, beq_iff_eq]; constructor <;> intro h <;> omega], rfl⟩
end Go.Proofs.Ytiimanoloedbeaa

/-
  Words for objects in memory: what a call turned (Only F: no older block but those of F), where an object's new blocks lie (Fresh), that two objects share none (Apart). A map with numbers for keys. No condition; nothing of the program is named.
-/
namespace Go.Proofs.Ytiimanoloedbeaa
open Go.RowKit Go.ChangeMaps

/-- of the blocks that were there none but those of F has turned -/
structure Only (F : List Nat) (w w' : World) : Prop where
  os : w'.os = w.os
  tape : w'.tape = w.tape
  output : w'.output = w.output
  size : w.heap.size ≤ w'.heap.size
  block : ∀ k, k < w.heap.size → k ∉ F → w'.heap[k]? = w.heap[k]?
/-- the blocks of F' are F's, or new since w -/
def Fresh (w : World) (F F' : List Nat) : Prop := ∀ k, k ∈ F' → k ∈ F ∨ w.heap.size ≤ k
def Apart (F G : List Nat) : Prop := ∀ k, k ∈ F → k ∉ G
def Under (w : World) (F : List Nat) : Prop := ∀ k, k ∈ F → k < w.heap.size
def Over (B : Nat) (F : List Nat) : Prop := ∀ k, k ∈ F → B ≤ k

section
variable {F F' F'' G : List Nat} {w w' w'' : World}
theorem Only.refl (F : List Nat) (w : World) : Only F w w := ⟨rfl, rfl, rfl, Nat.le_refl _, fun _ _ _ => rfl⟩
theorem Only.trans (h : Only F w w') (k : Only F' w' w'') (hf : Fresh w F F') : Only F w w'' :=
  ⟨k.os.trans h.os, k.tape.trans h.tape, k.output.trans h.output, Nat.le_trans h.size k.size, fun i hi hn =>
    (k.block i (Nat.lt_of_lt_of_le hi h.size) (fun hm => by
      rcases hf i hm with h1 | h1
      · exact hn h1
      · omega)).trans (h.block i hi hn)⟩
theorem Only.mono (h : Only F w w') (hs : ∀ k, k ∈ F → k ∈ G) : Only G w w' := ⟨h.os, h.tape, h.output, h.size, fun i hi hn => h.block i hi (fun hm => hn (hs i hm))⟩
theorem Only.alloc (h : Only F w w') (o : Obj) : Only F w (w'.alloc o) :=
  ⟨h.os, h.tape, h.output, Nat.le_trans h.size (by simp), fun i hi hn => (Below.heap_alloc w' o i (Nat.lt_of_lt_of_le hi h.size)).trans (h.block i hi hn)⟩
theorem Only.drew (h : Only F w w') : Only F w w'.drew := ⟨h.os, h.tape, h.output, h.size, h.block⟩
theorem Only.drewN (h : Only F w w') (n : Nat) : Only F w (w'.drewN n) := ⟨h.os, h.tape, h.output, h.size, h.block⟩
theorem Only.setCell (h : Only F w w') {p : Addr} (hp : p.block ∈ F ∨ w.heap.size ≤ p.block) (u : Value) : Only F w (w'.setCell p u) :=
  ⟨h.os, h.tape, h.output, by simpa [World.setCell] using h.size, fun i hi hn => (Below.heap_setCell w' p u i (by
    rintro rfl
    rcases hp with hp | hp
    · exact hn hp
    · omega)).trans (h.block i hi hn)⟩
theorem Only.grown (h : Only F w w') {row : Option Nat} (hg : w'.grownBy w'' row) (hr : ∀ g, row = some g → g ∈ F ∨ w.heap.size ≤ g) : Only F w w'' :=
  ⟨hg.os.trans h.os, hg.tape.trans h.tape, hg.output.trans h.output, Nat.le_trans h.size hg.size, fun i hi hn => (hg.block i (Nat.lt_of_lt_of_le hi h.size) (fun e => by
    rcases hr i e.symm with h1 | h1
    · exact hn h1
    · omega)).trans (h.block i hi hn)⟩
theorem Only.of_below (h : Below w.heap.size w w') (F : List Nat) : Only F w w' := ⟨h.os, h.tape, h.output, h.size, fun i hi _ => h.block i hi⟩
theorem Only.below (h : Only F w w') {B : Nat} (hB : Over B F) (hs : B ≤ w.heap.size) : Below B w w' :=
  ⟨h.os, h.tape, h.output, h.size, fun i hi => h.block i (by omega) (fun hm => by have := hB i hm; omega)⟩
theorem Only.nil (h : Only [] w w') : Below w.heap.size w w' := h.below (fun _ hk => by cases hk) (Nat.le_refl _)
theorem Only.cell (h : Only F w w') {p : Addr} (hp : p.block < w.heap.size) (hn : p.block ∉ F) : w'.cell? p = w.cell? p := World.cell?_of_block (w := w) (h.block p.block hp hn)
theorem Fresh.refl (w : World) (F : List Nat) : Fresh w F F := fun _ h => .inl h
theorem Fresh.trans (h : Fresh w F F') (k : Fresh w' F' F'') (hs : w.heap.size ≤ w'.heap.size) : Fresh w F F'' := fun i hi => by
  rcases k i hi with h1 | h1
  · exact h i h1
  · exact .inr (by omega)
theorem Fresh.over (h : Fresh w F F') {B : Nat} (hB : Over B F) (hs : B ≤ w.heap.size) : Over B F' := fun k hk => by
  rcases h k hk with h1 | h1
  · exact hB k h1
  · omega
theorem Apart.fresh (h : Apart F G) (hf : Fresh w F F') (hu : Under w G) : Apart F' G := fun k hk hg => by
  rcases hf k hk with h1 | h1
  · exact h k h1 hg
  · have := hu k hg; omega
theorem Apart.symm (h : Apart F G) : Apart G F := fun k hk hg => h k hg hk
theorem Under.more (h : Under w F) (hs : w.heap.size ≤ w'.heap.size) : Under w' F := fun k hk => Nat.lt_of_lt_of_le (h k hk) hs
theorem Blk.of {g : Nat} {t : TypeId} {cs : Array Value} (h : Blk w g t cs) (e : w'.heap[g]? = w.heap[g]?) : Blk w' g t cs := e.trans h
/-- the block in which a slice lies -/
def rowOf (v : Value) : List Nat := v.ownBlock.toList
theorem mem_rowOf {v : Value} {k : Nat} : k ∈ rowOf v ↔ v.ownBlock = some k := by simp [rowOf]
theorem row_of {base : Nat} {e : TypeId} {size n : Nat} {v : Value} {xs : List Value} (h : w.ownsRow base e size v n xs) (hk : ∀ k, k ∈ rowOf v → w'.heap[k]? = w.heap[k]?) : w'.ownsRow base e size v n xs := by
  refine ⟨h.1, ?_⟩
  rcases h.2 with h2 | ⟨g, cap, cur, hv, hg, hh, r⟩
  · exact .inl h2
  · exact .inr ⟨g, cap, cur, hv, hg, by rw [hk g (by subst hv; simp [rowOf, Value.ownBlock])]; exact hh, r⟩
theorem row_weaken {base base' : Nat} {e : TypeId} {size n : Nat} {v : Value} {xs : List Value} (h : w.ownsRow base e size v n xs) (hb : base' ≤ base) : w.ownsRow base' e size v n xs := by
  refine ⟨h.1, ?_⟩
  rcases h.2 with h | ⟨g, cap, cur, e, hg, r⟩
  · exact .inl h
  · exact .inr ⟨g, cap, cur, e, Nat.le_trans hb hg, r⟩
theorem row_under {base : Nat} {e : TypeId} {size n : Nat} {v : Value} {xs : List Value} (h : w.ownsRow base e size v n xs) : Under w (rowOf v) := fun k hk => (World.ownsRow.lt h k (mem_rowOf.1 hk)).2
theorem row_over {base : Nat} {e : TypeId} {size n : Nat} {v : Value} {xs : List Value} (h : w.ownsRow base e size v n xs) : Over base (rowOf v) := fun k hk => (World.ownsRow.lt h k (mem_rowOf.1 hk)).1
end

/-! ### a store of many cells -/
theorem setCells_grown (g : Nat) : ∀ (vs : List Value) (o : Nat) (w : World), w.grownBy (w.setCells g o vs) (some g) ∧ (w.setCells g o vs).heap.size = w.heap.size
  | [], _, w => ⟨World.grownBy.refl w _, rfl⟩
  | v :: vs, o, w => by
    obtain ⟨h1, h2⟩ := setCells_grown g vs (o + 1) (w.setCell ⟨g, o, none⟩ v)
    rw [World.setCells]
    have h0 : w.grownBy (w.setCell ⟨g, o, none⟩ v) (some g) := ⟨rfl, rfl, rfl, by simp [World.setCell], fun k _ hn => Below.heap_setCell w ⟨g, o, none⟩ v k (fun e => hn (by rw [e]))⟩
    exact ⟨h0.trans h1, by rw [h2]; simp [World.setCell]⟩
theorem Blk.setCells_ {g : Nat} {t : TypeId} : ∀ (vs : List Value) (o : Nat) {w : World} {cs : Array Value}, Blk w g t cs → ∃ cs', Blk (w.setCells g o vs) g t cs' ∧ cs'.size = cs.size
  | [], _, _, cs, h => ⟨cs, h, rfl⟩
  | v :: vs, o, w, cs, h => by
    obtain ⟨cs', h1, h2⟩ := Blk.setCells_ vs (o + 1) (h.set_ o v)
    exact ⟨cs', h1, by simpa using h2⟩
/-- the whole block is written over -/
theorem Blk.over {g : Nat} {t : TypeId} {w : World} {cs : Array Value} (h : Blk w g t cs) (vs : List Value) (hl : vs.length = cs.size) : Blk (w.setCells g 0 vs) g t vs.toArray := by
  obtain ⟨cs', h1, h2⟩ := Blk.setCells_ vs 0 h
  have : cs' = vs.toArray := by
    apply Array.ext_getElem?
    intro k
    rw [← h1.cell k]
    by_cases hk : k < vs.length
    · have := World.cell?_setCells_in g vs 0 w (fun j hj => by rw [Nat.zero_add, h.cell]; simp; omega) k hk
      rw [Nat.zero_add] at this
      rw [this]
      simp [hk]
    · rw [h1.cell, Array.getElem?_eq_none (by omega)]
      simp
      omega
  rw [← this]
  exact h1
theorem Blk.there {g : Nat} {t : TypeId} {w : World} {cs : Array Value} (h : Blk w g t cs) {o n : Nat} (hn : o + n ≤ cs.size) : w.there g o n := fun j hj => ⟨by rw [h.cell]; simp; omega, h.frozen _⟩
theorem Blk.range {g : Nat} {t : TypeId} {w : World} {cs : List Value} (h : Blk w g t cs.toArray) : w.rangeAt g 0 cs := fun j u hj => by rw [Nat.zero_add, h.cell]; simpa using hj

/-! ### a row of elements of several cells -/
theorem flat_at {α : Type} (f : α → List Value) (size : Nat) (hf : ∀ x, (f x).length = size) : ∀ (l : List α) (k j : Nat) (x : α), l[k]? = some x → j < size → (l.flatMap f)[k * size + j]? = (f x)[j]?
  | [], _, _, _, h, _ => by simp at h
  | y :: l, 0, j, x, h, hj => by
    simp at h
    subst h
    rw [List.flatMap_cons, Nat.zero_mul, Nat.zero_add, List.getElem?_append_left (by rw [hf]; exact hj)]
  | y :: l, k + 1, j, x, h, hj => by
    rw [List.flatMap_cons, List.getElem?_append_right (by rw [hf, Nat.add_mul]; omega), hf, show (k + 1) * size + j - size = k * size + j by rw [Nat.add_mul]; omega]
    exact flat_at f size hf l k j x (by simpa using h) hj
/-! ### a cell that may be written and a range, kept through a region that draws its order -/
/-! ### a map whose keys are numbers -/
def keyed (es : List MapEntry) : Prop := ∀ e ∈ es, ∃ z, e.key = .int .i64 z
def keyIs (k : Int) : Value → Bool
  | .int .i64 z => k == z
  | _ => false
def find (k : Int) : List MapEntry → Option Value
  | [] => none
  | e :: es => if keyIs k e.key then some e.val else find k es
/-- block g is a map that holds f: what isn't in it is none -/
def MapAt (w : World) (g : Nat) (f : Int → Option Value) : Prop := ∃ es clock, w.heap[g]? = some (.map es clock) ∧ keyed es.toList ∧ ∀ k, find k es.toList = f k

section
variable {P : Program} {w w' : World} {g : Nat} {f : Int → Option Value}
theorem MapAt.of (h : MapAt w g f) (e : w'.heap[g]? = w.heap[g]?) : MapAt w' g f := by
  obtain ⟨es, c, h1, h2⟩ := h
  exact ⟨es, c, e.trans h1, h2⟩
theorem MapAt.lt (h : MapAt w g f) : g < w.heap.size := by
  obtain ⟨es, c, h1, _⟩ := h
  exact (Array.getElem?_eq_some_iff.1 h1).1
theorem MapAt.new (w : World) : MapAt (w.alloc (.map #[] 0)) w.heap.size (fun _ => none) :=
  ⟨#[], 0, heap_alloc_new w _, by simp [keyed], by simp [find]⟩
end
end Go.Proofs.Ytiimanoloedbeaa

/-
  Bytes that a call collects in a slice of its own: make, append, over this program's numbers. No condition but the sizes.
-/
namespace Go.Proofs.Ytiimanoloedbeaa
open Go.RowKit
theorem byte_info : (Try.prog.info? 5).map (fun i => (i.zero, i.size, i.bytes)) = some (some (.int .u8 0), 1, 1) := by kernel_rfl

/-- the slice value v, of n bytes, is the call's own: it is nil, or starts a block from base on, whose first cells are the bytes bs -/
def Own (w : World) (base : Nat) (v : Value) (n : Nat) (bs : List Nat) : Prop := w.ownsRow base 5 1 v n (u8s bs)

theorem Own.nil (w : World) (base : Nat) : Own w base (.slice none 0 0) 0 [] := World.ownsRow_nil w base _ 1
theorem Own.new (w : World) (base : Nat) (hb : base ≤ w.heap.size) : Own (w.alloc (.cells #[] 5)) base (.slice (some ⟨w.heap.size, 0, none⟩) 0 0) 0 [] := by
  have := World.ownsRow_made (base := base) (e := 5) (size := 1) w #[] 0 hb (by simp [maxLen]) (by simp)
  simpa [Own, u8s] using this
theorem Own.len {w : World} {base : Nat} {v : Value} {n : Nat} {bs : List Nat} (h : Own w base v n bs) : bs.length = n := by
  have := h.1
  rw [u8s_length] at this
  omega
theorem Own.form {w : World} {base : Nat} {v : Value} {n : Nat} {bs : List Nat} (h : Own w base v n bs) :
    ∃ (A : Option Addr) (cap : Nat), v = .slice A n cap ∧ n ≤ cap ∧ cap ≤ maxLen ∧ (A = none ∧ n = 0 ∧ cap = 0 ∨ ∃ g, A = some ⟨g, 0, none⟩ ∧ base ≤ g ∧ g < w.heap.size) := by
  rcases h.2 with ⟨rfl, hx⟩ | ⟨g, cap, cur, rfl, hbg, hg, hnc, hcm, hcs, hpre⟩
  · have : n = 0 := by have := h.1; rw [hx] at this; simp at this; omega
    subst this
    exact ⟨none, 0, rfl, by omega, by simp [maxLen], .inl ⟨rfl, rfl, rfl⟩⟩
  · have hlt : g < w.heap.size := by
      rcases Nat.lt_or_ge g w.heap.size with h1 | h1
      · exact h1
      · rw [Array.getElem?_eq_none h1] at hg; cases hg
    exact ⟨some ⟨g, 0, none⟩, cap, rfl, hnc, hcm, .inr ⟨g, rfl, hbg, hlt⟩⟩
theorem Own.bytes {w : World} {base : Nat} {A : Option Addr} {n c : Nat} {bs : List Nat} (h : Own w base (.slice A n c) n bs) (hb : ∀ b ∈ bs, b < 256) : Bytes w w.heap.size A n bs :=
  ⟨Reads.of_own h, hb⟩
theorem Own.alloc {w : World} {base : Nat} {v : Value} {n : Nat} {bs : List Nat} (h : Own w base v n bs) (o : Obj) : Own (w.alloc o) base v n bs := World.ownsRow.alloc h o
theorem Own.drew {w : World} {base : Nat} {v : Value} {n : Nat} {bs : List Nat} (h : Own w base v n bs) : Own w.drew base v n bs := h
theorem Own.drewN {w : World} {base : Nat} {v : Value} {n : Nat} {bs : List Nat} (h : Own w base v n bs) (k : Nat) : Own (w.drewN k) base v n bs := h
theorem Own.below {w w' : World} {base : Nat} {v : Value} {n : Nat} {bs : List Nat} (h : Own w base v n bs) (hb : Below w.heap.size w w') : Own w' base v n bs :=
  World.ownsRow.kept (row := none) h ⟨hb.os, hb.tape, hb.output, hb.size, fun i hi _ => hb.block i hi⟩ (by cases v.ownBlock <;> simp)

theorem Own.weaken {w : World} {base base' : Nat} {v : Value} {n : Nat} {bs : List Nat} (h : Own w base v n bs) (hb : base' ≤ base) : Own w base' v n bs := by
  refine ⟨h.1, ?_⟩
  rcases h.2 with h | ⟨g, cap, cur, e, hg, r⟩
  · exact .inl h
  · exact .inr ⟨g, cap, cur, e, Nat.le_trans hb hg, r⟩
theorem Own.grown {w w' : World} {base : Nat} {v : Value} {n : Nat} {bs : List Nat} {row : Option Nat} (h : Own w base v n bs) (hg : w.grownBy w' row) (hne : v.ownBlock = none ∨ v.ownBlock ≠ row) : Own w' base v n bs :=
  World.ownsRow.kept h hg hne

theorem Own.stored {w : World} {base g n cap : Nat} {bs : List Nat} (h : Own w base (.slice (some ⟨g, 0, none⟩) n cap) n bs) (j b : Nat) :
    Own (w.setCell ⟨g, j, none⟩ (.int .u8 (b : Int))) base (.slice (some ⟨g, 0, none⟩) n cap) n (bs.set j b) := by
  have := (World.ownsRow.stored h j (.int .u8 (b : Int))).1
  unfold Own
  rwa [u8s, List.map_set]
theorem Own.cell {w : World} {base g n cap : Nat} {bs : List Nat} (h : Own w base (.slice (some ⟨g, 0, none⟩) n cap) n bs) {j b : Nat} (hj : bs[j]? = some b) : w.cell? ⟨g, j, none⟩ = some (.int .u8 (b : Int)) := by
  have hl : j < bs.length := by
    rcases Nat.lt_or_ge j bs.length with h1 | h1
    · exact h1
    · rw [List.getElem?_eq_none h1] at hj; cases hj
  rw [World.ownsRow.cellAt h j (by have := h.len; omega)]
  simp [u8s, u8, hj]
theorem Own.frozen {w : World} {base g n cap : Nat} {bs : List Nat} (h : Own w base (.slice (some ⟨g, 0, none⟩) n cap) n bs) (j : Nat) : w.frozen? ⟨g, j, none⟩ = false := World.ownsRow.frozenAt h j

theorem Own.apart {w : World} {base : Nat} {v : Value} {n : Nat} {bs : List Nat} (h : Own w base v n bs) {i : Nat} (hi : i < base) : some i ≠ v.ownBlock := by
  intro e
  have := (World.ownsRow.lt h i e.symm).1
  omega

/-- bytes as a string -/
def strOf (bs : List Nat) : ByteArray := strOfNums (bs.map fun (b : Nat) => (b : Int))
end Go.Proofs.Ytiimanoloedbeaa

/-
  Where the program's writers and readers lie; bytes.Clone. No condition.
-/
namespace Go.Proofs.Ytiimanoloedbeaa
open Go.RowKit
set_option linter.unusedSimpArgs false
set_option linter.unusedVariables false
theorem Reads.since {w w' : World} {B size n : Nat} {A : Option Addr} {xs : List Value} (h : Reads w B size A n xs) (hb : Below w.heap.size w w') : Reads w' B size A n xs :=
  ⟨h.1, fun hn => by
    obtain ⟨ad, e, hB, hc⟩ := h.2 hn
    exact ⟨ad, e, hB, fun j u hu => (hb.cell (World.block_lt_of_cell? w _ (hc j u hu))).trans (hc j u hu)⟩⟩
theorem Bytes.since {w w' : World} {B n : Nat} {A : Option Addr} {bs : List Nat} (h : Bytes w B A n bs) (hb : Below w.heap.size w w') : Bytes w' B A n bs := ⟨h.1.since hb, h.2⟩
theorem below_alloc (w : World) (o : Obj) : Below w.heap.size w (w.alloc o) := (Below.refl _ _).alloc (Nat.le_refl _) _
/-! ### a writer -/
/-- a writer of the call's own lies at g, and has the bytes bs -/
def WrAt (w : World) (base : Nat) (F : List Nat) (g : Nat) (bs : List Nat) : Prop :=
  ∃ v, F = g :: rowOf v ∧ Blk w g 77 #[v] ∧ Own w base v bs.length bs ∧ base ≤ g ∧ ∀ b ∈ bs, b < 256
def WrTo (w : World) (base : Nat) (F : List Nat) (g : Nat) (bs : List Nat) (w' : World) : Prop := ∃ F', WrAt w' base F' g bs ∧ Only F w w' ∧ Fresh w F F'
section
variable {w w' : World} {base g : Nat} {F : List Nat} {bs : List Nat}
theorem WrAt.of (h : WrAt w base F g bs) (hk : ∀ k, k ∈ F → w'.heap[k]? = w.heap[k]?) : WrAt w' base F g bs := by
  obtain ⟨v, rfl, h1, h2, h3⟩ := h
  exact ⟨v, rfl, h1.of (hk g (by simp)), row_of h2 (fun k hk' => hk k (by simp [hk'])), h3⟩
theorem WrAt.under (h : WrAt w base F g bs) : Under w F := by
  obtain ⟨v, rfl, h1, h2, h3⟩ := h
  intro k hk
  rcases List.mem_cons.1 hk with rfl | hk
  · exact h1.lt
  · exact row_under h2 k hk
theorem WrAt.over (h : WrAt w base F g bs) : Over base F := by
  obtain ⟨v, rfl, h1, h2, h3, h4⟩ := h
  intro k hk
  rcases List.mem_cons.1 hk with rfl | hk
  · exact h3
  · exact row_over h2 k hk
theorem WrAt.below (h : WrAt w base F g bs) (hb : Below w.heap.size w w') : WrAt w' base F g bs := h.of fun k hk => hb.block k (h.under k hk)
theorem WrAt.weaken {base' : Nat} (h : WrAt w base F g bs) (hb : base' ≤ base) : WrAt w base' F g bs := by
  obtain ⟨v, rfl, h1, h2, h3, h4⟩ := h
  exact ⟨v, rfl, h1, h2.weaken hb, Nat.le_trans hb h3, h4⟩
theorem WrTo.trans {bs' : List Nat} {w1 : World} {F1 : List Nat} (ho : Only F w w1) (hf : Fresh w F F1) (h : WrTo w1 base F1 g bs' w') : WrTo w base F g bs' w' := by
  obtain ⟨F2, h1, h2, h3⟩ := h
  exact ⟨F2, h1, ho.trans h2 hf, hf.trans h3 ho.size⟩
end
/-! ### packed -/
end Go.Proofs.Ytiimanoloedbeaa

/-
  Values of many cells: how a struct of two parts, or a slice of one element, is put together, whatever the cells. No condition but the sizes.
-/
namespace Go.Proofs.Ytiimanoloedbeaa
open Go.RowKit

/-- a slice of one element -/
theorem run_buildSlice_one {P : Program} {t e : TypeId} {size : Nat} (hu : P.underlying t = some (.slice e)) (hz : (P.info? e).bind (fun i => i.zero.map fun z => (i.size, z.cells.size)) = some (size, size)) (hs : 0 < size) (hb : size ≤ 16777216) {v : Value} (h0 : v.cells.size = size) (w : World) :
    (Instr.buildSlice t 1 #[(0, v)]).run P w = .ok (.slice (some ⟨w.heap.size, 0, none⟩) 1 1) (w.alloc (.cells v.cells e)) := by
  cases hi : P.info? e with
  | none => simp [hi] at hz
  | some ie =>
    cases hz' : ie.zero with
    | none => simp [hi, hz'] at hz
    | some z =>
      simp [hi, hz'] at hz
      obtain ⟨e1, e2⟩ := hz
      refine run_buildSlice w t e 1 _ _ ie z hu hi hz' (by rw [e1]; omega) (by rw [e1]; omega) ?_
      have := Great.fill_whole hs [v] ((Array.range (1 * ie.size)).map (z.cells[· % z.cells.size]!)) (fun u hu => by simp at hu; subst hu; exact h0) (by simp [e1])
      rw [e1] at this ⊢
      simpa using this
end Go.Proofs.Ytiimanoloedbeaa

/-
  A region that draws its order, taken by hand: one operation that alone may come up; two of which either may come up first; one that yields in whatever world. No condition.
-/
namespace Go.Proofs.Ytiimanoloedbeaa
open Go.RowKit
section
variable {P : Program} {ops : Array Oper} {Q : Exit → Act → World → Prop} {md : Region.Mode}
/-- it yields a value and leaves another world -/
theorem wp_ran {o : Oper} {a : Act} {w w' : World} {K : Act → World → Prop} {v : Value} (hv : (execOp a.eval o).run P w = .ok (.value v) w') (h : K (a.put o.dst v) w') : Oper.wp P o a w K Q := by
  unfold Oper.wp
  rw [hv]
  exact h
/-- it calls -/
theorem wp_called {o : Oper} {a : Act} {w : World} {K : Act → World → Prop} {f : FuncId} {args : Array Value} {R : Ending → World → Prop} (hv : (execOp a.eval o).run P w = .ok (.enter f args) w) (hc : Calls P f args w R) (h : ∀ e w', R e w' → ∃ v, e = .returned v ∧ K (a.put o.dst v) w') : Oper.wp P o a w K Q := by
  unfold Oper.wp
  rw [hv, Oper.upon_enter]
  refine hc.mono fun e w' hr => ?_
  obtain ⟨v, rfl, hk⟩ := h e w' hr
  exact hk
variable {T : World → Prop} {i : Nat}
end
end Go.Proofs.Ytiimanoloedbeaa

/-
  A region that draws its order, taken by hand, where one condition on the world holds behind each operation but the last one: what reads under the condition is taken first. No condition.
-/
namespace Go.Proofs.Ytiimanoloedbeaa
open Go.RowKit
section
variable {P : Program} {ops : Array Oper} {Q : Exit → Act → World → Prop} {md : Region.Mode} {S : World → Prop} {L : Nat}
/-- S is shown behind each operation but L -/
def wpAnyL (P : Program) (md : Region.Mode) (ops : Array Oper) (Q : Exit → Act → World → Prop) (S : World → Prop) (L : Nat) : Nat → Array Bool → Act → World → Prop
  | 0, l, a, w => Region.ready md ops l = [] ∧ Q .normal a w
  | f + 1, l, a, w => (Region.ready md ops l = [] → Q .normal a w) ∧ ∀ j ∈ Region.ready md ops l, wpOp P ops Q j (fun a' w' => (j ≠ L → S w') ∧ wpAnyL P md ops Q S L f (l.setIfInBounds j true) a' w') a w
theorem any_of_L : ∀ (f : Nat) (l : Array Bool) (a : Act) (w : World), wpAnyL P md ops Q S L f l a w → wpAny P md ops Q f l a w
  | 0, _, _, _, h => h
  | f + 1, _, _, _, h => ⟨h.1, fun j hj => wpOp_mono (fun a' w' h' => any_of_L f _ a' w' h'.2) (h.2 j hj)⟩
theorem L_first {i : Nat} {oi oL : Oper} {v : Value} (hi : ops[i]? = some oi) (hL : ops[L]? = some oL) (hw : oL.after.any (fun e => Region.binds md e && e.on == i) = true) (hsel : ∀ (j : Nat) (o : Oper) cs b, ops[j]? = some o → o.op ≠ .select cs b)
    (hQ : ∀ c a w, Q (.panic c) (a.put oi.dst v) w → Q (.panic c) a w) :
    ∀ (f : Nat) (l : Array Bool) (a : Act) (w : World),
      (∀ j oj, ops[j]? = some oj → j ≠ i → l.getD j true = false → (∀ e ∈ oj.after, Region.binds md e = true → e.on ≠ i) → oi.apart ops oj = true) →
      i ∈ Region.ready md ops l → YieldsIf P ops S oi v a → S w →
      wpAnyL P md ops Q S L f (l.setIfInBounds i true) (a.put oi.dst v) w → wpAnyL P md ops Q S L (f + 1) l a w
  | 0, l, a, w, _, hr, hy, hS, H => by
    refine ⟨fun h => (by rw [h] at hr; cases hr), fun j hj => ?_⟩
    by_cases hji : j = i
    · subst hji
      exact hy.wpOp hi hS ⟨fun _ => hS, H⟩
    · have := ready_mono hj hji
      rw [H.1] at this
      cases this
  | f + 1, l, a, w, hfree, hr, hy, hS, H => by
    refine ⟨fun h => (by rw [h] at hr; cases hr), fun j hj => ?_⟩
    by_cases hji : j = i
    · subst hji
      exact hy.wpOp hi hS ⟨fun _ => hS, H⟩
    · obtain ⟨hjun, oj, hoj, hall⟩ := mem_ready.1 hj
      have hiun : l.getD i true = false := (mem_ready.1 hr).1
      have h1 := H.2 j (ready_mono hj hji)
      have hnot : ∀ e ∈ oj.after, Region.binds md e = true → e.on ≠ i := fun e he hb heq => by
        have h2 := hall e he hb
        rw [heq] at h2
        rcases Nat.lt_or_ge i l.size with h' | h'
        · simp [h'] at hiun h2
          rw [hiun] at h2
          cases h2
        · simp [Array.getElem?_eq_none h'] at h2
      have hjL : j ≠ L := by
        rintro rfl
        rw [hL] at hoj
        injection hoj with hoj
        subst hoj
        obtain ⟨k, hk, he⟩ := Array.any_eq_true.1 hw
        simp only [Bool.and_eq_true, beq_iff_eq] at he
        exact hnot _ (Array.getElem_mem hk) he.1 he.2
      have h2 := wpOp_putIf hoj (hfree j oj hoj hji hjun hnot) (fun cs b => hsel i oi cs b hi) (fun cs b => hsel j oj cs b hoj) hQ hy h1
      refine wpOp_mono (fun a' w' h3 => ?_) h2
      obtain ⟨hy', hS', H'⟩ := h3
      rw [Array.setIfInBounds_comm _ _ (Ne.symm hji)] at H'
      refine ⟨fun _ => hS' hjL, L_first hi hL hw hsel hQ f _ a' w' (fun k ok hk hki hun hno => hfree k ok hk hki ?_ hno) (ready_mono hr (Ne.symm hji)) hy' (hS' hjL) H'⟩
      by_cases hjk : j = k
      · subst hjk; exact hjun
      · rw [getD_set_ne true hjk] at hun; exact hun
/-- what reads under S is taken first -/
theorem L_take {i : Nat} {oi oL : Oper} {v : Value} {f : Nat} {l : Array Bool} {a : Act} {w : World} (hi : ops[i]? = some oi) (hL : ops[L]? = some oL) (hw : oL.after.any (fun e => Region.binds md e && e.on == i) = true) (hs : Region.noSelect ops = true) (hf : Region.free md ops l i = true) (hr : (Region.ready md ops l).contains i = true)
    (hQ : ∀ c a w, Q (.panic c) (a.put oi.dst v) w → Q (.panic c) a w) (hy : YieldsIf P ops S oi v a) (hS : S w)
    (h : wpAnyL P md ops Q S L f (l.setIfInBounds i true) (a.put oi.dst v) w) : wpAnyL P md ops Q S L (f + 1) l a w :=
  L_first hi hL hw (Region.noSelect_spec hs) hQ f l a w (Region.free_spec hi hf) (by simpa using hr) hy hS h
/-- the same where S is shown behind each operation -/
theorem S_first {i : Nat} {oi : Oper} {v : Value} (hi : ops[i]? = some oi) (hL : ops[L]? = none) (hsel : ∀ (j : Nat) (o : Oper) cs b, ops[j]? = some o → o.op ≠ .select cs b)
    (hQ : ∀ c a w, Q (.panic c) (a.put oi.dst v) w → Q (.panic c) a w) :
    ∀ (f : Nat) (l : Array Bool) (a : Act) (w : World),
      (∀ j oj, ops[j]? = some oj → j ≠ i → l.getD j true = false → (∀ e ∈ oj.after, Region.binds md e = true → e.on ≠ i) → oi.apart ops oj = true) →
      i ∈ Region.ready md ops l → YieldsIf P ops S oi v a → S w →
      wpAnyL P md ops Q S L f (l.setIfInBounds i true) (a.put oi.dst v) w → wpAnyL P md ops Q S L (f + 1) l a w
  | 0, l, a, w, _, hr, hy, hS, H => by
    refine ⟨fun h => (by rw [h] at hr; cases hr), fun j hj => ?_⟩
    by_cases hji : j = i
    · subst hji
      exact hy.wpOp hi hS ⟨fun _ => hS, H⟩
    · have := ready_mono hj hji
      rw [H.1] at this
      cases this
  | f + 1, l, a, w, hfree, hr, hy, hS, H => by
    refine ⟨fun h => (by rw [h] at hr; cases hr), fun j hj => ?_⟩
    by_cases hji : j = i
    · subst hji
      exact hy.wpOp hi hS ⟨fun _ => hS, H⟩
    · obtain ⟨hjun, oj, hoj, hall⟩ := mem_ready.1 hj
      have hiun : l.getD i true = false := (mem_ready.1 hr).1
      have h1 := H.2 j (ready_mono hj hji)
      have hnot : ∀ e ∈ oj.after, Region.binds md e = true → e.on ≠ i := fun e he hb heq => by
        have h2 := hall e he hb
        rw [heq] at h2
        rcases Nat.lt_or_ge i l.size with h' | h'
        · simp [h'] at hiun h2
          rw [hiun] at h2
          cases h2
        · simp [Array.getElem?_eq_none h'] at h2
      have hjL : j ≠ L := by
        rintro rfl
        rw [hL] at hoj
        cases hoj
      have h2 := wpOp_putIf hoj (hfree j oj hoj hji hjun hnot) (fun cs b => hsel i oi cs b hi) (fun cs b => hsel j oj cs b hoj) hQ hy h1
      refine wpOp_mono (fun a' w' h3 => ?_) h2
      obtain ⟨hy', hS', H'⟩ := h3
      rw [Array.setIfInBounds_comm _ _ (Ne.symm hji)] at H'
      refine ⟨fun _ => hS' hjL, S_first hi hL hsel hQ f _ a' w' (fun k ok hk hki hun hno => hfree k ok hk hki ?_ hno) (ready_mono hr (Ne.symm hji)) hy' (hS' hjL) H'⟩
      by_cases hjk : j = k
      · subst hjk; exact hjun
      · rw [getD_set_ne true hjk] at hun; exact hun
theorem S_take {i : Nat} {oi : Oper} {v : Value} {f : Nat} {l : Array Bool} {a : Act} {w : World} (hi : ops[i]? = some oi) (hL : ops[L]? = none) (hs : Region.noSelect ops = true) (hf : Region.free md ops l i = true) (hr : (Region.ready md ops l).contains i = true)
    (hQ : ∀ c a w, Q (.panic c) (a.put oi.dst v) w → Q (.panic c) a w) (hy : YieldsIf P ops S oi v a) (hS : S w)
    (h : wpAnyL P md ops Q S L f (l.setIfInBounds i true) (a.put oi.dst v) w) : wpAnyL P md ops Q S L (f + 1) l a w :=
  S_first hi hL (Region.noSelect_spec hs) hQ f l a w (Region.free_spec hi hf) (by simpa using hr) hy hS h
theorem L_done {f : Nat} {l : Array Bool} {a : Act} {w : World} (hr : Region.ready md ops l = []) (h : Q .normal a w) : wpAnyL P md ops Q S L f l a w := by
  cases f with
  | zero => exact ⟨hr, h⟩
  | succ f => exact ⟨fun _ => h, fun j hj => by rw [hr] at hj; cases hj⟩
/-- one alone may come up, S stands behind it -/
theorem L_one {j : Nat} {o : Oper} {f : Nat} {l : Array Bool} {a : Act} {w : World} (hr : Region.ready md ops l = [j]) (ho : ops[j]? = some o) (hw : Region.wanted o (yielded ops a.tmps) = true)
    (h : Oper.wp P o a w (fun a' w' => S w' ∧ wpAnyL P md ops Q S L f (l.setIfInBounds j true) a' w') Q) : wpAnyL P md ops Q S L (f + 1) l a w := by
  refine ⟨fun h0 => absurd (hr ▸ h0) (by simp), fun k hk => ?_⟩
  rw [hr] at hk
  obtain rfl := List.mem_singleton.1 hk
  refine wpOp_step ho (fun K hK => ?_)
  rw [if_pos hw]
  exact Oper.wp_mono (fun a' w' h' => hK a' w' ⟨fun _ => h'.1, h'.2⟩) h
/-- the last one alone may come up -/
theorem L_last {o : Oper} {f : Nat} {l : Array Bool} {a : Act} {w : World} (hr : Region.ready md ops l = [L]) (ho : ops[L]? = some o) (hw : Region.wanted o (yielded ops a.tmps) = true) (hd : Region.ready md ops (l.setIfInBounds L true) = [])
    (h : Oper.wp P o a w (fun a' w' => Q .normal a' w') Q) : wpAnyL P md ops Q S L (f + 1) l a w := by
  refine ⟨fun h0 => absurd (hr ▸ h0) (by simp), fun k hk => ?_⟩
  rw [hr] at hk
  obtain rfl := List.mem_singleton.1 hk
  refine wpOp_step ho (fun K hK => ?_)
  rw [if_pos hw]
  refine Oper.wp_mono (fun a' w' h' => hK a' w' ⟨fun hne => absurd rfl hne, ?_⟩) h
  cases f with
  | zero => exact ⟨hd, h'⟩
  | succ f => exact ⟨fun _ => h', fun j hj => by rw [hd] at hj; cases hj⟩
/-- the region begins -/
theorem any_beginL {id : Nat} {a : Act} {w : World} (S : World → Prop) (L : Nat) (hm : P.follows .mixedOrders = true) (h : wpAnyL P .any ops (NoPanic Q) S L ops.size (Array.replicate ops.size false) a w.drew) : (Code.region id ops true).wp P Q a w :=
  wp_region_noPanic (wp_region_any hm (any_of_L _ _ _ _ h))
end
end Go.Proofs.Ytiimanoloedbeaa

/-
  What the calls of a writer, nil or not, do. Conditions: the sizes.
-/
namespace Go.Proofs.Ytiimanoloedbeaa
open Go.RowKit
set_option linter.unusedSimpArgs false
set_option maxRecDepth 100000
set_option linter.unusedVariables false
/-- a writer, nil or of the call's own -/
def Wr (w : World) (base : Nat) (F : List Nat) (p : Option Addr) (bs : List Nat) : Prop := (p = none ∧ F = [] ∧ bs = []) ∨ ∃ g, p = some ⟨g, 0, none⟩ ∧ WrAt w base F g bs
def WTo (w : World) (base : Nat) (F : List Nat) (p : Option Addr) (bs : List Nat) (w' : World) : Prop := ∃ F', Wr w' base F' p bs ∧ Only F w w' ∧ Fresh w F F'
section
variable {w w' w1 : World} {base : Nat} {F : List Nat} {p : Option Addr} {bs news : List Nat}
theorem Wr.under (h : Wr w base F p bs) : Under w F := by
  rcases h with ⟨_, rfl, _⟩ | ⟨g, _, h⟩
  · exact fun k hk => by cases hk
  · exact h.under
theorem Wr.over (h : Wr w base F p bs) : Over base F := by
  rcases h with ⟨_, rfl, _⟩ | ⟨g, _, h⟩
  · exact fun k hk => by cases hk
  · exact h.over
theorem Wr.of (h : Wr w base F p bs) (hk : ∀ k, k ∈ F → w'.heap[k]? = w.heap[k]?) : Wr w' base F p bs := by
  rcases h with h | ⟨g, hp, h⟩
  · exact .inl h
  · exact .inr ⟨g, hp, h.of hk⟩
theorem Wr.below (h : Wr w base F p bs) (hb : Below w.heap.size w w') : Wr w' base F p bs := h.of fun k hk => hb.block k (h.under k hk)
theorem WTo.after {F1 : List Nat} (ho : Only F w w1) (hf : Fresh w F F1) (h : WTo w1 base F1 p bs w') : WTo w base F p bs w' := by
  obtain ⟨F2, h1, h2, h3⟩ := h
  exact ⟨F2, h1, ho.trans h2 hf, hf.trans h3 ho.size⟩
theorem WTo.since (hb : Below w.heap.size w w1) (h : WTo w1 base F p bs w') : WTo w base F p bs w' := h.after (Only.of_below hb F) (Fresh.refl _ _)
end
theorem Bytes.only {w w' : World} {B n : Nat} {A : Option Addr} {bs F : List Nat} (h : Bytes w B A n bs) (ho : Only F w w') (ha : ∀ a, A = some a → 0 < n → a.block ∉ F) : Bytes w' B A n bs :=
  ⟨⟨h.1.1, fun hn => by
    obtain ⟨ad, e, hB, hc⟩ := h.1.2 hn
    exact ⟨ad, e, hB, fun j u hu => (ho.cell (World.block_lt_of_cell? w _ (hc j u hu)) (by rw [block_of_add]; exact ha ad e hn)).trans (hc j u hu)⟩⟩, h.2⟩
theorem strOf_size (bs : List Nat) : (strOf bs).size = bs.length := by simp [strOf, strOfNums_size]
/-- a string as new bytes -/
theorem conv_str (w : World) (bs : List Nat) (hb : ∀ b ∈ bs, b < 256) : ∃ cap w', (convert 9 23 (.string (strOf bs))).run Try.prog w = .ok (.slice (some ⟨w.heap.size, 0, none⟩) bs.length cap) w' ∧ Below w.heap.size w w' ∧ Bytes w' (w.heap.size + 1) (some ⟨w.heap.size, 0, none⟩) bs.length bs := by
  have h := Lib.run_convert_string_bytes (P := Try.prog) w 9 23 5 (strOf bs) Try.underlying9 Try.underlying23 Try.underlying5
  rw [strOf_size] at h
  refine ⟨_, _, h, ⟨rfl, rfl, rfl, by rw [Lib.bytesWorld_size]; omega, fun i hi => Lib.bytesWorld_at_old _ _ _ _ hi⟩, ⟨⟨by simp [u8s], fun hn => ⟨_, rfl, Nat.lt_succ_self _, fun j u hu => ?_⟩⟩, hb⟩⟩
  have hj : j < bs.length := by
    rcases Nat.lt_or_ge j bs.length with h' | h'
    · exact h'
    · rw [List.getElem?_eq_none (by rw [u8s_length]; exact h')] at hu; cases hu
  rw [add_zero_off, Lib.bytesWorld_cell _ _ _ _ (by rw [strOf_size]; exact hj), ← hu]
  have hbj := hb _ (List.getElem_mem hj)
  simp [strOf, strOfNums_data, u8s, u8, hj]
  omega
/-- numbers as cells -/
def i64s (l : List Int) : List Value := l.map (.int .i64)
theorem i64s_length (l : List Int) : (i64s l).length = l.length := by simp [i64s]
def Ints (w : World) (B : Nat) (A : Option Addr) (n : Nat) (l : List Int) : Prop := Reads w B 1 A n (i64s l)
theorem Ints.len {w : World} {B n : Nat} {A : Option Addr} {l : List Int} (h : Ints w B A n l) : l.length = n := by have := h.1; rw [i64s_length] at this; omega
theorem Ints.only {w w' : World} {B n : Nat} {A : Option Addr} {l : List Int} {F : List Nat} (h : Ints w B A n l) (ho : Only F w w') (ha : ∀ a, A = some a → 0 < n → a.block ∉ F) : Ints w' B A n l :=
  ⟨h.1, fun hn => by
    obtain ⟨ad, e, hB, hc⟩ := h.2 hn
    exact ⟨ad, e, hB, fun j u hu => (ho.cell (World.block_lt_of_cell? w _ (hc j u hu)) (by rw [block_of_add]; exact ha ad e hn)).trans (hc j u hu)⟩⟩
theorem Ints.at_ {w : World} {B n k : Nat} {A : Option Addr} {l : List Int} (h : Ints w B A n l) (hk : k < n) : ∃ ad x, A = some ad ∧ l[k]? = some x ∧ w.cell? (ad.add k) = some (.int .i64 x) := by
  obtain ⟨ad, u, e, hb, hx, hc⟩ := Reads.at_ h hk
  have hl : k < l.length := by have := h.len; omega
  refine ⟨ad, l[k], e, List.getElem?_eq_getElem hl, ?_⟩
  rw [hc, ← hx]
  simp [i64s, hl]
end Go.Proofs.Ytiimanoloedbeaa

/-
  What the calls of the program's reader, nil or not, do. Conditions: the reader lies where it is said to.
-/
namespace Go.Proofs.Ytiimanoloedbeaa
open Go.RowKit
set_option linter.unusedSimpArgs false
set_option maxRecDepth 100000
set_option linter.unusedVariables false
/-- a reader of the call's own at g -/
def RdAt (w : World) (base : Nat) (F : List Nat) (g : Nat) (s : RD) : Prop :=
  ∃ A c, F = g :: (A.map Addr.block).toList ∧ Blk w g 139 #[.slice A s.bs.length c, .bool s.bad] ∧ Bytes w w.heap.size A s.bs.length s.bs ∧ s.bs.length ≤ c ∧ c ≤ maxLen ∧ base ≤ g ∧ (∀ a, A = some a → base ≤ a.block ∧ a.block < w.heap.size ∧ a.block ≠ g) ∧ s.Good
/-- a reader, nil or of the call's own -/
def Rd (w : World) (base : Nat) (F : List Nat) (p : Option Addr) (s : RD) : Prop := (p = none ∧ F = [] ∧ s = RD.spoilt) ∨ ∃ g, p = some ⟨g, 0, none⟩ ∧ RdAt w base F g s
def RTo (w : World) (base : Nat) (F : List Nat) (p : Option Addr) (s : RD) (w' : World) : Prop := ∃ F', Rd w' base F' p s ∧ Only F w w' ∧ Fresh w F F'
section
variable {w w' w1 : World} {base g : Nat} {F : List Nat} {p : Option Addr} {s : RD}
theorem RdAt.of (h : RdAt w base F g s) (hs : w.heap.size ≤ w'.heap.size) (hk : ∀ k, k ∈ F → w'.heap[k]? = w.heap[k]?) : RdAt w' base F g s := by
  obtain ⟨A, c, rfl, h1, h2, h3, h4, h5, h6, h7⟩ := h
  refine ⟨A, c, rfl, h1.of (hk g (by simp)), ⟨⟨h2.1.1, fun hn => ?_⟩, h2.2⟩, h3, h4, h5, fun a ha => ⟨(h6 a ha).1, Nat.lt_of_lt_of_le (h6 a ha).2.1 hs, (h6 a ha).2.2⟩, h7⟩
  obtain ⟨ad, e, hB, hc⟩ := h2.1.2 hn
  exact ⟨ad, e, Nat.lt_of_lt_of_le hB hs, fun j u hu => (World.cell?_of_block (hk _ (by rw [block_of_add, e]; simp))).trans (hc j u hu)⟩
theorem RdAt.under (h : RdAt w base F g s) : Under w F := by
  obtain ⟨A, c, rfl, h1, h2, h3, h4, h5, h6, h7⟩ := h
  intro k hk
  rcases List.mem_cons.1 hk with rfl | hk
  · exact h1.lt
  · cases A with
    | none => cases hk
    | some a => simp at hk; subst hk; exact (h6 a rfl).2.1
theorem RdAt.over (h : RdAt w base F g s) : Over base F := by
  obtain ⟨A, c, rfl, h1, h2, h3, h4, h5, h6, h7⟩ := h
  intro k hk
  rcases List.mem_cons.1 hk with rfl | hk
  · exact h5
  · cases A with
    | none => cases hk
    | some a => simp at hk; subst hk; exact (h6 a rfl).1
theorem Rd.under (h : Rd w base F p s) : Under w F := by
  rcases h with ⟨_, rfl, _⟩ | ⟨g, _, h⟩
  · exact fun k hk => by cases hk
  · exact h.under
theorem Rd.over (h : Rd w base F p s) : Over base F := by
  rcases h with ⟨_, rfl, _⟩ | ⟨g, _, h⟩
  · exact fun k hk => by cases hk
  · exact h.over
theorem Rd.of (h : Rd w base F p s) (hs : w.heap.size ≤ w'.heap.size) (hk : ∀ k, k ∈ F → w'.heap[k]? = w.heap[k]?) : Rd w' base F p s := by
  rcases h with h | ⟨g, hp, h⟩
  · exact .inl h
  · exact .inr ⟨g, hp, h.of hs hk⟩
theorem Rd.below (h : Rd w base F p s) (hb : Below w.heap.size w w') : Rd w' base F p s := h.of hb.size fun k hk => hb.block k (h.under k hk)
theorem Rd.good (h : Rd w base F p s) : s.Good := by
  rcases h with ⟨_, _, rfl⟩ | ⟨g, _, A, c, _, _, _, _, _, _, _, h⟩
  · exact RD.spoilt_good
  · exact h
theorem Rd.len (h : Rd w base F p s) : s.bs.length ≤ maxLen := by
  rcases h with ⟨_, _, rfl⟩ | ⟨g, _, A, c, _, _, _, h1, h2, _⟩
  · simp [RD.spoilt, maxLen]
  · omega
theorem RTo.after {F1 : List Nat} (ho : Only F w w1) (hf : Fresh w F F1) (h : RTo w1 base F1 p s w') : RTo w base F p s w' := by
  obtain ⟨F2, h1, h2, h3⟩ := h
  exact ⟨F2, h1, ho.trans h2 hf, hf.trans h3 ho.size⟩
theorem RTo.since (hb : Below w.heap.size w w1) (h : RTo w1 base F p s w') : RTo w base F p s w' := h.after (Only.of_below hb F) (Fresh.refl _ _)
theorem RTo.stay (h : Rd w base F p s) : RTo w base F p s w := ⟨F, h, Only.refl _ _, Fresh.refl _ _⟩
end
end Go.Proofs.Ytiimanoloedbeaa

/-
  Heads as data: names, marks, links, snapshots; which are good; their text, and what is read of any bytes. No condition; nothing of the program is named.
-/
namespace Go.Proofs.Ytiimanoloedbeaa
open Go.RowKit
set_option linter.unusedSimpArgs false
set_option linter.unusedVariables false
def okSign (b : Nat) : Bool := (decide (97 ≤ b) && decide (b ≤ 122)) || (decide (48 ≤ b) && decide (b ≤ 57)) || decide (b = 45)
def namedB (s : List Nat) : Bool := decide (1 ≤ s.length) && decide (s.length ≤ 20) && s.all okSign
structure LkV where
  par : List Nat
  ps : Int
  ov : Int
structure MkV where
  on : Bool
  good : Bool
  row : List Nat
structure SnV where
  num : Int
  size : Int
  name : List Nat
  prot : Bool
  mx : MkV
  lk : LkV
  ch : List (List Nat)
structure HdV where
  id : Int
  size : Int
  obj : Int
  seq : Int
  sn : List SnV
  mx : MkV
  lk : LkV
  ow : Int
  it : Int
  tg : Int
def objsOf (size object : Int) : Int := if size < 1 ∨ object < 1 then 0 else (size - 1) / object + 1
/-- is one string ahead of another? -/
def ltS (a b : List Nat) : Bool := Op.bytesLess (strOf a).toList (strOf b).toList
def MkV.B (m : MkV) (n : Int) : Bool := if m.on then decide (Good m.row) && decide ((m.row.length : Int) = n) else m.row.isEmpty && !m.good
def LkV.B (l : LkV) (size : Int) : Bool := if l.par.isEmpty then decide (l.ps = 0) && decide (l.ov = 0) else namedB l.par && decide (1 ≤ l.ps) && decide (0 ≤ l.ov) && decide (l.ov ≤ size)
def viewB (size obj : Int) (m : MkV) (l : LkV) : Bool := decide (0 ≤ size) && decide (size ≤ 4096) && m.B (objsOf size obj) && l.B size
/-- names that rise -/
def upB : List Nat → List (List Nat) → Bool
  | _, [] => true
  | last, c :: r => namedB c && ltS last c && upB c r
def SnV.chB (s : SnV) : Bool := upB [] s.ch && (s.prot || s.ch.isEmpty)
def snapB (obj seq last : Int) (s : SnV) : Bool := decide (last < s.num) && decide (s.num ≤ seq) && namedB s.name && viewB s.size obj s.mx s.lk && s.chB
def snapsB (obj seq : Int) : Int → List SnV → Bool
  | _, [] => true
  | last, s :: r => snapB obj seq last s && snapsB obj seq s.num r
def isObjB (n : Int) : Bool := n == 16 || n == 32 || n == 64 || n == 128 || n == 256
def HdV.itB (h : HdV) : Bool :=
  if h.it = 1 then decide (0 ≤ h.tg) && decide (h.tg ≤ 4096)
  else if h.it = 2 ∨ h.it = 3 then h.sn.any fun s => s.num == h.tg
  else if h.it = 0 ∨ h.it = 4 ∨ h.it = 5 then decide (h.tg = 0) else false
def HdV.snB (h : HdV) : Bool := decide (h.sn.length ≤ 16) && snapsB h.obj h.seq 0 h.sn && decide (h.sn.map SnV.name).Nodup
def HdV.B (h : HdV) : Bool := decide (0 ≤ h.id) && decide (0 ≤ h.seq) && isObjB h.obj && viewB h.size h.obj h.mx h.lk && h.snB && decide (-1 ≤ h.ow) && decide (h.ow < 8) && h.itB
/-! ### the text -/
def flagB (f : Bool) : List Nat := [if f then 1 else 0]
def txt (b : List Nat) : List Nat := numB b.length ++ b
def putMk (m : MkV) : List Nat := flagB m.on ++ (flagB m.good ++ txt (putM m.row))
def putLk (l : LkV) : List Nat := txt l.par ++ (numB l.ps ++ numB l.ov)
def putVw (m : MkV) (l : LkV) : List Nat := putMk m ++ putLk l
def putSn (s : SnV) : List Nat := numB s.num ++ (txt s.name ++ (numB s.size ++ (putVw s.mx s.lk ++ (flagB s.prot ++ (numB s.ch.length ++ s.ch.flatMap txt)))))
def HdV.put (h : HdV) : List Nat := numB h.id ++ (numB h.size ++ (numB h.obj ++ (numB h.seq ++ (numB h.sn.length ++ (h.sn.flatMap putSn ++ (putVw h.mx h.lk ++ (numB h.ow ++ (numB h.it ++ numB h.tg))))))))
/-! ### what is read -/
def RD.mkTo (s : RD) : RD := s.flagTo.flagTo.bytesTo
def RD.lkTo (s : RD) : RD := (s.bytesTo.take 8).take 8
def RD.chT : Nat → RD → RD
  | 0, s => s
  | k + 1, s => if namedB s.bytes then RD.chT k s.bytesTo else s.bytesTo
/-- a reader's states in a snapshot -/
def RD.sn1 (s : RD) : RD := (s.take 8).bytesTo.take 8
def RD.sn2 (s : RD) : RD := s.sn1.mkTo.lkTo.flagTo
def RD.snTo (s : RD) : RD := RD.chT s.sn2.num.toNat (s.sn2.take 8)
def itT {σ : Type} (g : σ → σ) : Nat → σ → σ
  | 0, s => s
  | k + 1, s => itT g k (g s)
def RD.snT (k : Nat) (s : RD) : RD := itT RD.snTo k s
def RD.four (s : RD) : RD := (((s.take 8).take 8).take 8).take 8
def RD.cnt (s : RD) : Nat := (min s.four.num 16).toNat
def RD.hd1 (s : RD) : RD := RD.snT s.cnt (s.four.take 8)
def RD.hd2 (s : RD) : RD := s.hd1.mkTo.lkTo
/-! ### what was put is read back -/
def I64 (n : Int) : Prop := -9223372036854775808 ≤ n ∧ n ≤ 9223372036854775807
theorem named_len {c : List Nat} (h : namedB c = true) : 1 ≤ c.length ∧ c.length ≤ 20 := by
  simp [namedB] at h
  omega
end Go.Proofs.Ytiimanoloedbeaa

/-
  The document's answer for the wire: its numbers as bytes. Conditions: the sizes.
-/
namespace Go.Proofs.Ytiimanoloedbeaa
open Go.RowKit
set_option linter.unusedSimpArgs false
set_option maxRecDepth 100000
set_option linter.unusedVariables false
end Go.Proofs.Ytiimanoloedbeaa

/-
  What the program's reader reads: a byte, a number, a flag, bytes, a text, numbers; its end. Conditions: the reader lies where it is said to.
-/
namespace Go.Proofs.Ytiimanoloedbeaa
open Go.RowKit
set_option linter.unusedSimpArgs false
set_option maxRecDepth 100000
set_option linter.unusedVariables false
end Go.Proofs.Ytiimanoloedbeaa

/-
  What the program's reader reads as numbers. Conditions: the reader lies where it is said to; it has no more than nine million bytes.
-/
namespace Go.Proofs.Ytiimanoloedbeaa
open Go.RowKit
set_option linter.unusedSimpArgs false
set_option maxRecDepth 100000
set_option linter.unusedVariables false
theorem made_same (m k : Nat) (v : Value) (hm : 0 < m) : madeCells (List.replicate m v).toArray k = (List.replicate k v).toArray := by
  unfold madeCells
  apply Array.ext
  · simp
  · intro i h1 h2
    have h3 : i % m < m := Nat.mod_lt _ hm
    have h4 : i % (List.replicate m v).toArray.size < (List.replicate m v).toArray.size := by simpa using h3
    rw [Array.getElem_map, Array.getElem_range, getElem!_pos (List.replicate m v).toArray (i % (List.replicate m v).toArray.size) h4]
    simp
/-- numbers of the call's own -/
def OwnI (w : World) (base : Nat) (v : Value) (n : Nat) (l : List Int) : Prop := w.ownsRow base 3 1 v n (i64s l)
theorem OwnI.weaken {w : World} {base base' n : Nat} {v : Value} {l : List Int} (h : OwnI w base v n l) (hb : base' ≤ base) : OwnI w base' v n l := row_weaken h hb
theorem OwnI.form {w : World} {base : Nat} {v : Value} {n : Nat} {l : List Int} (h : OwnI w base v n l) : ∃ (A : Option Addr) (cap : Nat), v = .slice A n cap ∧ ∀ a, A = some a → base ≤ a.block := by
  rcases h.2 with ⟨rfl, hx⟩ | ⟨g, cap, cur, rfl, hbg, hg, hnc, hcm, hcs, hpre⟩
  · have : n = 0 := by have := h.1; rw [hx] at this; simp at this; omega
    subst this
    exact ⟨none, 0, rfl, fun a ha => by cases ha⟩
  · exact ⟨some ⟨g, 0, none⟩, cap, rfl, fun a ha => by injection ha with ha; subst ha; exact hbg⟩
theorem OwnI.of_blk {w : World} {base g n : Nat} {l : List Int} (h : Blk w g 3 (i64s l).toArray) (hl : l.length = n) (hb : base ≤ g) (hn : n ≤ 9000000) : OwnI w base (.slice (some ⟨g, 0, none⟩) n n) n l :=
  ⟨by rw [i64s_length]; omega, .inr ⟨g, n, _, rfl, hb, h, Nat.le_refl _, by simp [maxLen]; omega, by simp [i64s_length, hl], by rw [List.take_of_length_le (by simp [i64s_length, hl])]⟩⟩
end Go.Proofs.Ytiimanoloedbeaa

/-
  The document's reader. Conditions: it lies where it is said to; its bytes lie below what the call may write.
-/
namespace Go.Proofs.Ytiimanoloedbeaa
open Go.RowKit
set_option linter.unusedSimpArgs false
set_option maxRecDepth 100000
set_option linter.unusedVariables false
def Mr (w : World) (base g : Nat) (s : RD) : Prop :=
  ∃ A c, Blk w g 108 #[.slice A s.bs.length c, .bool s.bad] ∧ Bytes w base A s.bs.length s.bs ∧ s.bs.length ≤ c ∧ c ≤ maxLen ∧ base ≤ g ∧ s.Good
section
variable {w w' : World} {base g : Nat} {s : RD}
theorem Mr.of (h : Mr w base g s) (hb : Below base w w') (hk : w'.heap[g]? = w.heap[g]?) : Mr w' base g s := by
  obtain ⟨A, c, h1, h2, r⟩ := h
  exact ⟨A, c, h1.of hk, h2.below hb, r⟩
theorem Mr.lt (h : Mr w base g s) : g < w.heap.size := by
  obtain ⟨A, c, h1, _⟩ := h
  exact h1.lt
theorem Mr.over (h : Mr w base g s) : base ≤ g := by
  obtain ⟨A, c, _, _, _, _, h, _⟩ := h
  exact h
theorem Mr.good (h : Mr w base g s) : s.Good := by
  obtain ⟨A, c, _, _, _, _, _, h⟩ := h
  exact h
theorem Mr.below (h : Mr w base g s) (hb : Below w.heap.size w w') : Mr w' base g s :=
  h.of (hb.mono (Nat.le_of_lt (Nat.lt_of_le_of_lt h.over h.lt))) (hb.block g h.lt)
end
end Go.Proofs.Ytiimanoloedbeaa

/-
  What the document's reader reads. Conditions: it lies where it is said to.
-/
namespace Go.Proofs.Ytiimanoloedbeaa
open Go.RowKit
set_option linter.unusedSimpArgs false
set_option maxRecDepth 100000
set_option linter.unusedVariables false
end Go.Proofs.Ytiimanoloedbeaa

/-
  What the laws ask of a reader: bytes and numbers side by side, bytes written over, one read by both. Conditions: the readers lie where they are said to.
-/
namespace Go.Proofs.Ytiimanoloedbeaa
open Go.RowKit
set_option linter.unusedSimpArgs false
set_option maxRecDepth 100000
set_option linter.unusedVariables false
/-- the state behind a reading -/
def RD.to (s : RD) (kind : Int) : RD := if kind = 0 then s.take 1 else if kind = 2 then s.flagTo else if kind = 3 then s.bytesTo else if kind = 4 then s.bytesTo else if kind = 5 then s.numsTo else s.take 8
/-- both readers, apart -/
structure Both (w : World) (base : Nat) (F : List Nat) (p : Option Addr) (s : RD) (g : Nat) (t : RD) : Prop where
  rd : Rd w base F p s
  mr : Mr w base g t
  apart : g ∉ F
def BTo (w : World) (base : Nat) (F : List Nat) (p : Option Addr) (s : RD) (g : Nat) (t : RD) (w' : World) : Prop := ∃ F', Both w' base F' p s g t ∧ Only (g :: F) w w' ∧ Fresh w F F'
section
variable {w w1 w' : World} {base g : Nat} {F F1 : List Nat} {p : Option Addr} {s t : RD}
theorem Both.below (h : Both w base F p s g t) (hb : Below w.heap.size w w') : Both w' base F p s g t := ⟨h.rd.below hb, h.mr.below hb, h.apart⟩
theorem Both.one (h : Both w base F p s g t) {s' : RD} (r : Rd w1 base F1 p s') (o : Only F w w1) (f : Fresh w F F1) : Both w1 base F1 p s' g t :=
  ⟨r, h.mr.of (o.below h.rd.over (Nat.le_of_lt (Nat.lt_of_le_of_lt h.mr.over h.mr.lt))) (o.block g h.mr.lt h.apart), fun hm => by
    rcases f _ hm with h' | h'
    · exact h.apart h'
    · have := h.mr.lt; omega⟩
theorem Both.two (h : Both w base F p s g t) {t' : RD} (m : Mr w1 base g t') (o : Only [g] w w1) : Both w1 base F p s g t' :=
  ⟨h.rd.of o.size (fun k hk => o.block k (h.rd.under k hk) (fun hm => h.apart (by simp at hm; subst hm; exact hk))), m, h.apart⟩
theorem BTo.stay (h : Both w base F p s g t) : BTo w base F p s g t w := ⟨F, h, Only.refl _ _, Fresh.refl _ _⟩
theorem BTo.two (h : BTo w base F p s g t w1) {t' : RD} (m : Mr w' base g t') (o : Only [g] w1 w') : BTo w base F p s g t' w' := by
  obtain ⟨F2, h1, h2, h3⟩ := h
  exact ⟨F2, h1.two m o, h2.trans o (fun k hk => .inl (by simp at hk; simp [hk])), h3⟩
end
end Go.Proofs.Ytiimanoloedbeaa

/-
  What the laws' own Copy and Kept return. Conditions: the bytes are no more than a million.
-/
namespace Go.Proofs.Ytiimanoloedbeaa
open Go.RowKit
set_option linter.unusedSimpArgs false
set_option maxRecDepth 100000
set_option linter.unusedVariables false
end Go.Proofs.Ytiimanoloedbeaa

/-
  What the laws of marks ask of bytes and numbers: copies, rows side by side. Conditions: the rows read as they are said to.
-/
namespace Go.Proofs.Ytiimanoloedbeaa
open Go.RowKit
set_option linter.unusedSimpArgs false
set_option maxRecDepth 100000
set_option linter.unusedVariables false
theorem u8ofNat_inj {x y : Nat} (hx : x < 256) (hy : y < 256) (h : UInt8.ofNat x = UInt8.ofNat y) : x = y := by
  have := congrArg UInt8.toNat h
  simp at this
  omega
theorem strOf_data (bs : List Nat) : (strOf bs).data.toList = bs.map UInt8.ofNat := by
  simp [strOf, strOfNums]
theorem strOf_inj {a b : List Nat} (ha : ∀ x ∈ a, x < 256) (hb : ∀ x ∈ b, x < 256) (h : strOf a = strOf b) : a = b := by
  have h1 := congrArg (fun s : ByteArray => s.data.toList) h
  simp only [strOf_data] at h1
  have hl : a.length = b.length := by simpa using congrArg List.length h1
  apply List.ext_getElem? 
  intro i
  have h2 := congrArg (fun l => l[i]?) h1
  simp only [List.getElem?_map] at h2
  by_cases hi : i < a.length
  · rw [List.getElem?_eq_getElem hi, List.getElem?_eq_getElem (by omega)] at h2 ⊢
    simp at h2
    rw [u8ofNat_inj (ha _ (List.getElem_mem hi)) (hb _ (List.getElem_mem (by omega))) h2]
  · rw [List.getElem?_eq_none (by omega), List.getElem?_eq_none (by omega)]
end Go.Proofs.Ytiimanoloedbeaa

/-
  What New, at, like, Set and Sized of marks return. Conditions: the rows read as bytes, of no more than nine million.
-/
namespace Go.Proofs.Ytiimanoloedbeaa
open Go.RowKit
set_option linter.unusedSimpArgs false
set_option maxRecDepth 100000
set_option linter.unusedVariables false
theorem Own.of_blk {w : World} {base g n : Nat} {bs : List Nat} (h : Blk w g 5 (u8s bs).toArray) (hl : bs.length = n) (hb : base ≤ g) (hn : n ≤ 9000000) : Own w base (.slice (some ⟨g, 0, none⟩) n n) n bs :=
  ⟨by rw [u8s_length]; omega, .inr ⟨g, n, _, rfl, hb, h, Nat.le_refl _, by simp [maxLen]; omega, by simp [u8s_length, hl], by rw [List.take_of_length_le (by simp [u8s_length, hl])]⟩⟩
theorem Blk.bytes {w : World} {g n : Nat} {bs : List Nat} (h : Blk w g 5 (u8s bs).toArray) (hl : bs.length = n) (hb : ∀ b ∈ bs, b < 256) : Bytes w w.heap.size (some ⟨g, 0, none⟩) n bs :=
  ⟨⟨by rw [u8s_length]; omega, fun _ => ⟨_, rfl, h.lt, fun j u hu => by
    rw [add_zero_off, h.cell]
    simpa using hu⟩⟩, hb⟩
theorem Blk.cell8 {w : World} {g k b : Nat} {bs : List Nat} (h : Blk w g 5 (u8s bs).toArray) (hk : bs[k]? = some b) : w.cell? ⟨g, k, none⟩ = some (.int .u8 (b : Int)) := by
  rw [h.cell]
  simp [u8s, u8, hk]
theorem Blk.set8 {w : World} {g : Nat} {bs : List Nat} (h : Blk w g 5 (u8s bs).toArray) (k b : Nat) : Blk (w.setCell ⟨g, k, none⟩ (.int .u8 (b : Int))) g 5 (u8s (bs.set k b)).toArray := by
  have := h.set_ k (.int .u8 (b : Int))
  rw [List.setIfInBounds_toArray] at this
  rwa [u8s, List.map_set]
theorem noughts (k : Nat) : u8s (List.replicate k 0) = List.replicate k (Value.int .u8 0) := by simp [u8s, u8]
theorem make_marks (q : Nat) (hq : q ≤ 9000000) (w : World) : (Instr.makeSlice 33 (.int .i64 q) (.int .i64 q)).run Try.prog w = .ok (.slice (some ⟨w.heap.size, 0, none⟩) q q) (w.alloc (.cells (u8s (List.replicate q 0)).toArray 5)) := by
  obtain ⟨i0, hi0, hz0, hz1, hz2⟩ := info_parts byte_info
  have := run_make (P := Try.prog) w 33 5 i0 (.int .u8 0) Try.underlying33 hi0 hz0 .i64 .i64 q q (by omega) (by omega) (by rw [hz2]; omega) (by omega)
  rw [hz1] at this
  simp only [Int.toNat_natCast, Nat.mul_one] at this
  rw [this, noughts]
  have e : (Value.int .u8 0).cells = (List.replicate 1 (Value.int .u8 0)).toArray := rfl
  rw [e, made_same 1 q _ (by omega)]
theorem make_b (q : Nat) (hq : q ≤ 9000000) (w : World) : (Instr.makeSlice 23 (.int .i64 q) (.int .i64 q)).run Try.prog w = .ok (.slice (some ⟨w.heap.size, 0, none⟩) q q) (w.alloc (.cells (u8s (List.replicate q 0)).toArray 5)) := by
  obtain ⟨i0, hi0, hz0, hz1, hz2⟩ := info_parts byte_info
  have := run_make (P := Try.prog) w 23 5 i0 (.int .u8 0) Try.underlying23 hi0 hz0 .i64 .i64 q q (by omega) (by omega) (by rw [hz2]; omega) (by omega)
  rw [hz1] at this
  simp only [Int.toNat_natCast, Nat.mul_one] at this
  rw [this, noughts]
  have e : (Value.int .u8 0).cells = (List.replicate 1 (Value.int .u8 0)).toArray := rfl
  rw [e, made_same 1 q _ (by omega)]
theorem new_ok (k : Nat) (hk : k ≤ 256) (w : World) : Calls Try.prog 165 #[.int .i64 k] w fun e w' => e = .returned (.tuple #[.slice (some ⟨w.heap.size, 0, none⟩) k k, .nilIface]) ∧ w' = w.alloc (.cells (u8s (List.replicate k 0)).toArray 5) := by
  have hmk := make_marks k (by omega)
  have hd : decide ((256 : Int) < (k : Int)) = false := decide_eq_false (by omega)
  have hd0 : decide ((k : Int) < 0) = false := decide_eq_false (by omega)
  go_enter Try.func165, Try.ntmps165
  go_wp2
  go_ret2
  exact ⟨rfl, rfl⟩
theorem u8_size : (Try.prog.info? 5).map (·.size) = some 1 := by kernel_rfl
theorem splice_all {α : Type} (cs Z : List α) (h : cs.length = Z.length) : splice Z 0 cs = cs := by
  simp [splice, h]
theorem like_any (A : Option Addr) (n c : Nat) (bs : List Nat) (w : World) (hn : n ≤ 9000000) (hb : Bytes w w.heap.size A n bs) :
    Calls Try.prog 151 #[.slice A n c] w fun e w' => e = .returned (.slice (some ⟨w.heap.size, 0, none⟩) n n) ∧ Blk w' w.heap.size 5 (u8s bs).toArray ∧ Below w.heap.size w w' := by
  have hmk := make_marks n hn
  have hl := hb.len
  have HB := Lib.hid hb
  have K0 := Blk.new w 5 (u8s (List.replicate n 0)).toArray
  have B0 := below_alloc w (.cells (u8s (List.replicate n 0)).toArray 5)
  have HK := Lib.hid (And.intro K0 B0)
  clear hb K0 B0
  go_enter Try.func151, Try.ntmps151
  go_wp2_with (refine wpList_copy_splice rfl (.tmp 7) (.tmp 8) _ _ rfl 5 Try.underlying33 u8_size (some ⟨w.heap.size, 0, none⟩) A n n n c rfl rfl w.heap.size 0 (u8s (List.replicate n 0)) 5 HK.out.1 (u8s bs) (by rw [u8s_length, hl]; exact (Nat.min_self n).symm) (fun h0 => ⟨rfl, by
                 obtain ⟨ad, e, _, hc⟩ := (HB.out.below HK.out.2).1.2 (by rw [u8s_length] at h0; omega)
                 exact ⟨ad, e, hc⟩⟩) (by rw [u8s_length, u8s_length, List.length_replicate]; omega) (oneCell_u8s _) w.heap.size w HK.out.2 (Nat.le_refl _) ?_
               intro w1 h1 b1)
  go_ret
  exact ⟨rfl, by have := h1.out; rwa [splice_all _ _ (by rw [u8s_length, u8s_length, List.length_replicate]; omega)] at this, b1⟩
theorem sized_at (bs : List Nat) (k j : Nat) (h : j < k) : (sizedM bs k)[j]? = some (mk bs j) := by simp [sizedM, h]
theorem splice_sized (bs : List Nat) (k : Nat) : splice (u8s (List.replicate k 0)) 0 (u8s (bs.take k)) = u8s (sizedM bs k) := by
  apply List.ext_getElem?
  intro j
  unfold splice
  simp only [List.take_zero, List.nil_append, Nat.zero_add, u8s_length]
  by_cases hj : j < (bs.take k).length
  · rw [List.getElem?_append_left (by rw [u8s_length]; exact hj)]
    have h1 : j < k := by rw [List.length_take] at hj; omega
    have h2 : j < bs.length := by rw [List.length_take] at hj; omega
    rw [u8s, u8s, List.getElem?_map, List.getElem?_map, sized_at bs k j h1, List.getElem?_take, if_pos h1, List.getElem?_eq_getElem h2, mk_at (List.getElem?_eq_getElem h2)]
  · rw [List.getElem?_append_right (by rw [u8s_length]; omega), u8s_length, List.getElem?_drop, noughts, List.getElem?_replicate]
    rw [List.length_take] at hj ⊢
    by_cases h1 : j < k
    · rw [if_pos (by omega), u8s, List.getElem?_map, sized_at bs k j h1, mk_over (by omega)]
      rfl
    · rw [if_neg (by omega), List.getElem?_eq_none (by rw [u8s_length, sizedM_len]; omega)]
theorem sized_ok (A : Option Addr) (n c k : Nat) (bs : List Nat) (w : World) (hk : k ≤ 256) (hb : Bytes w w.heap.size A n bs) :
    Calls Try.prog 161 #[.slice A n c, .int .i64 k] w fun e w' => e = .returned (.tuple #[.slice (some ⟨w.heap.size, 0, none⟩) k k, .nilIface]) ∧ Blk w' w.heap.size 5 (u8s (sizedM bs k)).toArray ∧ Below w.heap.size w w' := by
  have hl := hb.len
  have HB := Lib.hid hb
  have K0 := Blk.new w 5 (u8s (List.replicate k 0)).toArray
  have B0 := below_alloc w (.cells (u8s (List.replicate k 0)).toArray 5)
  have HK := Lib.hid (And.intro K0 B0)
  clear hb K0 B0
  go_enter Try.func161, Try.ntmps161
  go_wp2_with fail
  refine (new_ok k hk w).mono ?_
  rintro e w' ⟨rfl, rfl⟩
  go_wp2_with (refine wpList_copy_splice rfl (.tmp 13) (.tmp 14) _ _ rfl 5 Try.underlying33 u8_size (some ⟨w.heap.size, 0, none⟩) A k k n c rfl rfl w.heap.size 0 (u8s (List.replicate k 0)) 5 HK.out.1 (u8s (bs.take k)) (by rw [u8s_length, List.length_take, hl]; exact Nat.min_comm _ _) (fun h0 => ⟨rfl, by
                 rw [u8s_length, List.length_take] at h0
                 obtain ⟨ad, e, _, hc⟩ := (HB.out.below HK.out.2).1.2 (by omega)
                 exact ⟨ad, e, fun j v hj => hc j v (by
                   rw [u8s, List.getElem?_map, List.getElem?_take] at hj
                   split at hj
                   · rw [u8s, List.getElem?_map]; exact hj
                   · cases hj)⟩⟩) (by rw [u8s_length, u8s_length, List.length_replicate, List.length_take]; omega) (oneCell_u8s _) w.heap.size w HK.out.2 (Nat.le_refl _) ?_
               intro w1 h1 b1)
  go_ret2
  exact ⟨rfl, by have := h1.out; rwa [splice_sized] at this, b1⟩
end Go.Proofs.Ytiimanoloedbeaa

/-
  What good, textSize and place of marks return. Conditions: the row reads as bytes, of no more than ten thousand.
-/
namespace Go.Proofs.Ytiimanoloedbeaa
open Go.RowKit
set_option linter.unusedSimpArgs false
set_option maxRecDepth 100000
set_option linter.unusedVariables false
def okMark (b : Nat) : Bool := decide (b ≤ 3)
theorem odd_any (b : Nat) (w : World) : Calls Try.prog 163 #[.int .u8 (b : Int)] w fun e w' => e = .returned (.bool (!okMark b)) ∧ w = w' := by
  unfold okMark
  by_cases h1 : b ≤ 3
  · have hd1 : decide ((3 : Int) < (b : Int)) = false := decide_eq_false (by omega)
    have hd2 : decide (b ≤ 3) = true := decide_eq_true h1
    rw [hd2]
    go_enter Try.func163, Try.ntmps163
    go_wp2
    go_ret
    exact ⟨by trivial, rfl⟩
  · have hd1 : decide ((3 : Int) < (b : Int)) = true := decide_eq_true (by omega)
    have hd2 : decide (b ≤ 3) = false := decide_eq_false h1
    rw [hd2]
    go_enter Try.func163, Try.ntmps163
    go_wp2
    go_ret
    exact ⟨by trivial, rfl⟩
def oddV : Value := .func (.func 163) #[] #[]
set_option maxHeartbeats 2000000 in
theorem index_odd {w : World} {B n c : Nat} {A : Option Addr} {bs : List Nat} (h : Bytes w B A n bs) (hl : n ≤ 65536) :
    Calls Try.prog 171 #[.slice A n c, oddV] w fun e w' => (∃ v : Int, e = .returned (.int .i64 v) ∧ ((v = -1 ∧ bs.all okMark = true) ∨ (0 ≤ v ∧ bs.all okMark = false))) ∧ w = w' := by
  have H := Lib.hid h
  have hlen := h.len
  clear h
  go_enter Try.func171, Try.ntmps171
  unfold oddV
  go_wp2
  go_loopw [8] (fun i wr => ∃ k : Nat, k ≤ n ∧ i = .int .i64 k ∧ wr = w ∧ ∀ j b, j < k → bs[j]? = some b → okMark b = true) (fun i _ => n - (intOf i).toNat)
  case atStart => exact ⟨0, by omega, rfl, by trivial, fun j b h => by omega⟩
  case round =>
    obtain ⟨k, hk, rfl, rfl, hall⟩ := hrel
    have HA := Lib.hid hall
    clear hall
    by_cases hlt : k < n
    · obtain ⟨ad, b, rfl, hb, hb2, hc⟩ := H.out.at_ hlt
      have HB := Lib.hid hb
      have HO := Lib.hid (odd_any b wr)
      have hwk : IntKind.i64.wrap ((k : Int) + 1) = (k : Int) + 1 := by rw [IntKind.wrap_i64]; omega
      clear hb
      go_wp2_with fail
      refine HO.out.mono ?_
      rintro e w' ⟨rfl, rfl⟩
      clear HO
      by_cases hok : okMark b = true
      · have HOK := Lib.hid hok
        rw [hok]
        clear hok
        go_wp2
        go_roundw
        case rel => exact ⟨k + 1, by omega, by go_num, by trivial, fun j b' hj hb' => by
          rcases Nat.lt_succ_iff_lt_or_eq.1 hj with h | rfl
          · exact HA.out j b' h hb'
          · rw [HB.out] at hb'; injection hb' with hb'; subst hb'; exact HOK.out⟩
        case measure => simp [intOf]; omega
      · have hok' : okMark b = false := by simpa using hok
        have HOK := Lib.hid hok'
        rw [hok']
        clear hok hok'
        go_wp2
        go_ret
        refine ⟨⟨_, rfl, .inr ⟨by omega, ?_⟩⟩, rfl⟩
        rw [List.all_eq_false]
        exact ⟨b, List.mem_of_getElem? HB.out, by rw [HOK.out]; simp⟩
    · obtain rfl : k = n := by omega
      go_wp2
      go_ret
      refine ⟨⟨_, rfl, .inl ⟨rfl, ?_⟩⟩, rfl⟩
      rw [List.all_eq_true]
      intro b hb
      obtain ⟨j, hj, rfl⟩ := List.mem_iff_getElem.1 hb
      exact HA.out j _ (by omega) (List.getElem?_eq_getElem hj)
theorem contains_odd {w : World} {B n c : Nat} {A : Option Addr} {bs : List Nat} (h : Bytes w B A n bs) (hl : n ≤ 65536) :
    Calls Try.prog 162 #[.slice A n c, oddV] w fun e w' => e = .returned (.bool (!bs.all okMark)) ∧ w = w' := by
  have HI := Lib.hid (index_odd (c := c) h hl)
  clear h
  go_enter Try.func162, Try.ntmps162
  go_wp2_with fail
  refine HI.out.mono ?_
  rintro e w' ⟨⟨v, rfl, hv⟩, rfl⟩
  rcases hv with ⟨rfl, hv⟩ | ⟨hv0, hv⟩
  · have HV := Lib.hid hv
    clear hv
    go_wp2
    go_ret
    exact ⟨by rw [HV.out]; rfl, rfl⟩
  · have HV := Lib.hid hv
    have hd : decide ((0 : Int) ≤ v) = true := decide_eq_true hv0
    clear hv
    go_wp2
    go_ret
    exact ⟨by rw [HV.out]; rfl, rfl⟩
theorem all_ok (bs : List Nat) : (bs.all okMark = true) ↔ ∀ x ∈ bs, x ≤ 3 := by simp [okMark]
theorem good_any (A : Option Addr) (n c B : Nat) (bs : List Nat) (w : World) (hn : n ≤ 10000) (h : Bytes w B A n bs) :
    Calls Try.prog 138 #[.slice A n c] w fun e w' => e = .returned (.bool (decide (Good bs))) ∧ w = w' := by
  have hl := h.len
  have HC := Lib.hid (contains_odd (c := c) h (by omega))
  clear h
  unfold oddV at HC
  by_cases h1 : n ≤ 256
  · have hd : decide ((n : Int) ≤ 256) = true := decide_eq_true (by omega)
    go_enter Try.func138, Try.ntmps138
    go_wp2_with fail
    refine HC.out.mono ?_
    rintro e w' ⟨rfl, rfl⟩
    by_cases hok : bs.all okMark = true
    · have HG : Hid (decide (Good bs) = true) := Lib.hid (decide_eq_true ⟨by omega, (all_ok bs).1 hok⟩)
      rw [hok]
      clear hok
      go_wp2
      go_ret
      exact ⟨by rw [HG.out]; rfl, rfl⟩
    · have hok' : bs.all okMark = false := by simpa using hok
      have HG : Hid (decide (Good bs) = false) := Lib.hid (decide_eq_false (fun hg => hok ((all_ok bs).2 hg.2)))
      rw [hok']
      clear hok hok'
      go_wp2
      go_ret
      exact ⟨by rw [HG.out]; rfl, rfl⟩
  · have hd : decide ((n : Int) ≤ 256) = false := decide_eq_false (by omega)
    have HG : Hid (decide (Good bs) = false) := Lib.hid (decide_eq_false (fun hg => by have := hg.1; omega))
    go_enter Try.func138, Try.ntmps138
    go_wp2
    go_ret
    exact ⟨by rw [HG.out]; rfl, rfl⟩
theorem size_any (n : Nat) (w : World) (hn : n ≤ 1000000) : Calls Try.prog 139 #[.int .i64 n] w fun e w' => e = .returned (.int .i64 ((2 + (n + 3) / 4 : Nat) : Int)) ∧ w = w' := by
  go_enter Try.func139, Try.ntmps139
  go_wp2
  go_ret
  exact ⟨ret_int (by omega), rfl⟩
theorem ret_two {a b c d : Int} (h : a = c) (h' : b = d) : Ending.returned (.tuple #[.int .i64 a, .int .i64 b]) = Ending.returned (.tuple #[.int .i64 c, .int .i64 d]) := by rw [h, h']
theorem place_any (i : Nat) (w : World) (hi : i ≤ 1000000) : Calls Try.prog 140 #[.int .i64 i] w fun e w' => e = .returned (.tuple #[.int .i64 ((2 + i / 4 : Nat) : Int), .int .i64 ((2 * (i % 4) : Nat) : Int)]) ∧ w = w' := by
  have hp : Calls Try.prog 140 #[.int .i64 i] w fun e w' => e = .returned (.tuple #[.int .i64 (2 + (i : Int) / 4), .int .i64 ((i : Int) % 4 * 2)]) ∧ w = w' := by
    go_enter Try.func140, Try.ntmps140
    go_wp2
    go_ret2
    exact ⟨rfl, rfl⟩
  refine hp.mono ?_
  rintro e w' ⟨rfl, rfl⟩
  exact ⟨ret_two (by omega) (by omega), rfl⟩
end Go.Proofs.Ytiimanoloedbeaa

/-
  What Put of marks returns. Conditions: the row reads as bytes, of no more than ten thousand.
-/
namespace Go.Proofs.Ytiimanoloedbeaa
open Go.RowKit
set_option linter.unusedSimpArgs false
set_option maxRecDepth 100000
set_option linter.unusedVariables false
theorem put_bad (A : Option Addr) (n c B : Nat) (bs : List Nat) (w : World) (hn : n ≤ 10000) (hb : Bytes w B A n bs) (hg : ¬ Good bs) :
    Calls Try.prog 89 #[.slice A n c] w fun e w' => e = .returned (.tuple #[.slice none 0 0, errV 2]) ∧ w = w' := by
  have HG := Lib.hid (good_any A n c B bs w hn hb)
  have hd : decide (Good bs) = false := decide_eq_false hg
  rw [hd] at HG
  clear hb hd hg
  go_enter Try.func89, Try.ntmps89
  go_wp2_with fail
  refine HG.out.mono ?_
  rintro e w' ⟨rfl, rfl⟩
  go_wp2
  go_ret2
  exact ⟨rfl, rfl⟩
theorem part_zero (bs : List Nat) : part bs 0 = [bs.length % 256, bs.length / 256] ++ List.replicate ((bs.length + 3) / 4) 0 := by
  unfold part packs
  congr 1
  apply List.ext_getElem?
  intro j
  by_cases hj : j < (bs.length + 3) / 4
  · rw [List.getElem?_map, List.getElem?_range hj, List.getElem?_replicate, if_pos hj]
    simp [packB, mk]
  · rw [List.getElem?_eq_none (by simp; omega), List.getElem?_eq_none (by simp; omega)]
theorem head_set (q r L : Nat) : ((List.replicate (2 + L) 0).set 0 q).set 1 r = [q, r] ++ List.replicate L 0 := by
  rw [Nat.add_comm, List.replicate_succ, List.replicate_succ]
  rfl
set_option maxHeartbeats 2000000 in
theorem put_ok (A : Option Addr) (n c : Nat) (bs : List Nat) (w : World) (hb : Bytes w w.heap.size A n bs) (hg : Good bs) :
    Calls Try.prog 89 #[.slice A n c] w fun e w' => e = .returned (.tuple #[.slice (some ⟨w.heap.size, 0, none⟩) (2 + (n + 3) / 4) (2 + (n + 3) / 4), .nilIface]) ∧ Blk w' w.heap.size 5 (u8s (putM bs)).toArray ∧ Below w.heap.size w w' := by
  have hl := hb.len
  have hg0 := hg.1
  have hn : n ≤ 256 := by omega
  have HB := Lib.hid hb
  have HG := Lib.hid (good_any A n c w.heap.size bs w (by omega) hb)
  have hd : decide (Good bs) = true := decide_eq_true hg
  rw [hd] at HG
  obtain ⟨P, hP⟩ : ∃ P, P = 2 + (n + 3) / 4 := ⟨_, rfl⟩
  have hmk := make_b P (by omega)
  have HGd := Lib.hid hg
  have hsz := size_any n w (by omega)
  rw [← hP] at hsz ⊢
  have HP := Lib.hid hP
  have hP2 : 2 ≤ P := by omega
  have hP3 : P ≤ 1000 := by omega
  clear hP
  clear hb hd hg
  go_enter Try.func89, Try.ntmps89
  go_wp2_with fail
  refine HG.out.mono ?_
  rintro e w' ⟨rfl, rfl⟩
  clear HG
  go_wp2_with fail
  refine hsz.mono ?_
  rintro e w' ⟨rfl, rfl⟩
  clear hsz
  have c0 : (u8s (List.replicate P 0))[0]? = some (.int .u8 0) := by rw [noughts, List.getElem?_replicate, if_pos (by omega)]
  have c1 : (u8s (List.replicate P 0))[1]? = some (.int .u8 0) := by rw [noughts, List.getElem?_replicate, if_pos (by omega)]
  have hparts : ((u8s (List.replicate P 0)).set 0 (Value.int .u8 ((n : Int) % 256))).set 1 (Value.int .u8 ((n : Int) / 256)) = u8s (part bs 0) := by
    rw [part_zero, HP.out, ← head_set, hl]
    simp [u8s, u8, List.map_set]
  have HPT := Lib.hid hparts
  clear hparts
  go_wp2
  rw [HPT.out]
  generalize hg : w.heap.size = g at *
  have HK : Hid (Blk (w.alloc (.cells (u8s (part bs 0)).toArray 5)) g 5 (u8s (part bs 0)).toArray ∧ Below g w (w.alloc (.cells (u8s (part bs 0)).toArray 5))) := Lib.hid (by subst hg; exact ⟨Blk.new _ _ _, below_alloc _ _⟩)
  generalize w.alloc (.cells (u8s (part bs 0)).toArray 5) = w1 at *
  go_loopw [30] (fun i wr => ∃ k : Nat, k ≤ n ∧ i = .int .i64 k ∧ Blk wr g 5 (u8s (part bs k)).toArray ∧ Below g w wr) (fun i _ => n - (intOf i).toNat)
  case atStart => exact ⟨0, by omega, rfl, HK.out.1, HK.out.2⟩
  case round =>
    obtain ⟨k, hk, rfl, hkb, hbl⟩ := hrel
    by_cases hlt : k < n
    · obtain ⟨ad, b, rfl, hb, hb2, hc⟩ := (HB.out.below hbl).at_ hlt
      have hpl := place_any k wr (by omega)
      have hkl : 2 + k / 4 < P := by have := HP.out; omega
      have hcell := hkb.cell8 (part_at bs k (by omega))
      have hfz := hkb.frozen (2 + k / 4)
      have hmk : mk bs k = b := mk_at hb
      have hb3 : b ≤ 3 := HGd.out.2 b (List.mem_of_getElem? hb)
      have hset := part_set HGd.out.2 k (by omega)
      rw [hmk] at hset
      have HE := Lib.hid (fun z : Nat => And.intro (hkb.set8 (2 + k / 4) z) (hbl.setCell (p := ⟨g, 2 + k / 4, none⟩) (Nat.le_refl _) (.int .u8 (z : Int))))
      have HS := Lib.hid hset
      have hpt := part_lt HGd.out.2 k
      have hor := (or_add (k % 4) (by omega) _ hpt b (by omega))
      have HPL := Lib.hid hpl
      have HA := Lib.hid hpt
      generalize packB (bs.take k) (k / 4) = a at *
      obtain ⟨at_, hat⟩ : ∃ at_, at_ = 2 + k / 4 := ⟨_, rfl⟩
      obtain ⟨sh, hsh⟩ : ∃ sh, sh = 2 * (k % 4) := ⟨_, rfl⟩
      rw [← hat] at hcell hfz hkl HPL HS HE
      rw [← hsh] at HPL HS hor
      have HAT := Lib.hid hat
      have hsh2 : sh ≤ 6 := by omega
      have HSH := Lib.hid (And.intro hsh hor)
      clear hkb hbl hset hmk hpl hb hat hsh hpt hor
      go_wp2_with fail
      refine HPL.out.mono ?_
      rintro e w2 ⟨he, hw⟩
      subst he
      subst hw
      clear HPL
      have ha : a < 256 := Nat.lt_of_lt_of_le HA.out (by
        have : k % 4 < 4 := Nat.mod_lt _ (by omega)
        calc 4 ^ (k % 4) ≤ 4 ^ 3 := Nat.pow_le_pow_right (by omega) (by omega)
          _ ≤ 256 := by decide)
      have e1 : ((b : Int) * 2 ^ sh % 256) = ((b <<< sh : Nat) : Int) := by
        have h1 := HSH.out.2.2
        rw [Nat.shiftLeft_eq] at h1 ⊢
        have h2 : ((b * 2 ^ sh : Nat) : Int) = (b : Int) * 2 ^ sh := by push_cast; rfl
        rw [← h2]
        omega
      have e2 : bits .or .u8 (a : Int) ((b <<< sh : Nat) : Int) = ((a ||| b <<< sh : Nat) : Int) := u8_or_nat a (b <<< sh) ha HSH.out.2.2
      generalize hz : a ||| b <<< sh = z at *
      generalize b <<< sh = s at *
      clear ha
      go_wp2
      go_region
      go_wp2
      go_roundw
      case rel => exact ⟨k + 1, by omega, by go_num, by rw [← HS.out]; exact (HE.out z).1, ⟨(HE.out z).2.os, (HE.out z).2.tape, (HE.out z).2.output, (HE.out z).2.size, (HE.out z).2.block⟩⟩
      case measure => simp [intOf]; omega
    · obtain rfl : k = n := by omega
      have HE := Lib.hid (And.intro hkb hbl)
      clear hkb hbl
      go_wp2
      go_ret2
      subst hg
      exact ⟨rfl, by rw [← part_all, hl]; exact HE.out.1, HE.out.2⟩
end Go.Proofs.Ytiimanoloedbeaa

/-
  What Take of marks returns. Conditions: the bytes are no more than ten thousand.
-/
namespace Go.Proofs.Ytiimanoloedbeaa
open Go.RowKit
set_option linter.unusedSimpArgs false
set_option maxRecDepth 100000
set_option linter.unusedVariables false
end Go.Proofs.Ytiimanoloedbeaa

/-
  The document's Good, Mark, Sized, Frozen, Changed and Scan. Conditions: the rows read as bytes and flags, of no more than ten thousand.
-/
namespace Go.Proofs.Ytiimanoloedbeaa
open Go.RowKit
set_option linter.unusedSimpArgs false
set_option maxRecDepth 100000
set_option linter.unusedVariables false
/-- bytes of the call's own, and what was there stands -/
def OwnB (w w' : World) (v : Value) (bs : List Nat) : Prop := Own w' w.heap.size v bs.length bs ∧ Below w.heap.size w w'
theorem OwnB.one {w w1 w2 : World} {v v2 : Value} {bs : List Nat} {b : Nat} {t : TypeId} {f : Nat × Nat} {cs : Array Value} (h : OwnB w w1 v bs) (h5 : Own w2 w.heap.size v2 (bs.length + 1) (bs ++ [b])) (hg : (w1.alloc (.cells cs t f)).grownBy w2 v.ownBlock) : OwnB w w2 v2 (bs ++ [b]) := by
  have hb := h.2.alloc h.2.size (.cells cs t f)
  refine ⟨by rw [List.length_append]; exact h5, hb.grown hg hb.size (fun b hb' => by have := (World.ownsRow.lt h.1 b hb').1; omega)⟩
end Go.Proofs.Ytiimanoloedbeaa

/-
  The document's Changed and Put. Conditions: the rows read as bytes, of no more than ten thousand; what is put are marks.
-/
namespace Go.Proofs.Ytiimanoloedbeaa
open Go.RowKit
set_option linter.unusedSimpArgs false
set_option maxRecDepth 100000
set_option linter.unusedVariables false
end Go.Proofs.Ytiimanoloedbeaa

/-
  The document's Take. Conditions: the bytes are no more than two thousand.
-/
namespace Go.Proofs.Ytiimanoloedbeaa
open Go.RowKit
set_option linter.unusedSimpArgs false
set_option maxRecDepth 100000
set_option linter.unusedVariables false
end Go.Proofs.Ytiimanoloedbeaa

/-
  Heads in memory: how they lie, how they are read. No condition but the sizes.
-/
namespace Go.Proofs.Ytiimanoloedbeaa
open Go.RowKit
set_option linter.unusedSimpArgs false
set_option linter.unusedVariables false
set_option maxRecDepth 100000
theorem own_ty {W : World} {base size n : Nat} {e : TypeId} {v : Value} {xs : List Value} (h : W.ownsRow base e size v n xs) {k : Nat} (hk : k ∈ rowOf v) : ∃ cs, Blk W k e cs := by
  rcases h.2 with ⟨rfl, _⟩ | ⟨g, c, cur, rfl, hb, hh, _⟩
  · simp [rowOf, Value.ownBlock] at hk
  · simp [rowOf, Value.ownBlock] at hk
    subst hk
    exact ⟨cur, hh⟩
theorem row_slice (A : Option Addr) (n c n' c' : Nat) : rowOf (.slice A n c) = rowOf (.slice A n' c') := by cases A <;> rfl
/-- how long a row of the call's own is, and where it starts -/
theorem own_shape {W : World} {base size n m c : Nat} {e : TypeId} {A : Option Addr} {xs : List Value} (h : W.ownsRow base e size (.slice A m c) n xs) : m = n ∧ n ≤ c ∧ c ≤ maxLen ∧ (A = none ∨ ∃ b, A = some ⟨b, 0, none⟩ ∧ base ≤ b ∧ b < W.heap.size) := by
  rcases h.2 with ⟨e, h0⟩ | ⟨b, cap, cur, e, hb, hh, h1, h2, _⟩
  · injection e with e1 e2 e3
    subst e1 e2 e3 h0
    exact ⟨rfl, Nat.le_refl _, by simp [maxLen], .inl rfl⟩
  · injection e with e1 e2 e3
    subst e1 e2 e3
    exact ⟨rfl, h1, h2, .inr ⟨b, rfl, hb, (show Blk W b e cur from hh).lt⟩⟩
theorem own_form {W : World} {base size n : Nat} {e : TypeId} {v : Value} {xs : List Value} (h : W.ownsRow base e size v n xs) : ∃ A c, v = .slice A n c := by
  rcases h.2 with ⟨rfl, h0⟩ | ⟨g, cap, cur, rfl, _⟩
  · exact ⟨none, 0, by rw [h0]⟩
  · exact ⟨_, cap, rfl⟩
theorem own_below {w w' : World} {base size n : Nat} {e : TypeId} {v : Value} {xs : List Value} (h : w.ownsRow base e size v n xs) (hb : Below w.heap.size w w') : w'.ownsRow base e size v n xs := row_of h fun k hk => hb.block k (row_under h k hk)
theorem run_store_cell {P : Program} (w : World) (g i : Nat) (ty : TypeId) (v : Value) (ht : w.there g i 1) (hi : (P.info? ty).map (·.size) = some 1) (h1 : v.oneCell' = true) :
    (storeVar ty ⟨g, i, none⟩ v).run P w = .ok () (w.setCell ⟨g, i, none⟩ v) := by
  have := run_storeCells_cells (P := P) g i [v] 0 w (fun j hj => by simpa using (ht j (by simpa using hj)).1) (fun j hj => by simpa using (ht j (by simpa using hj)).2) (fun u hu => by simp at hu; subst hu; exact h1)
  have hc : v.cells = #[v] := by cases v <;> first | rfl | cases h1
  cases hq : P.info? ty with
  | none => simp [hq] at hi
  | some i0 =>
    have hs : i0.size = 1 := by simpa [hq] using hi
    simp only [Nat.add_zero] at this
    simp [storeVar, sizeOf, typeInfo, hq, hc, hs, this, World.setCells]
section
variable {P : Program} {ops : Array Oper} {rest : List Oper} {o : Oper} {a : Act} {w : World} {Q : Exit → Act → World → Prop}
theorem wp_setq {K : Act → World → Prop} (ty : TypeId) (x y : Operand) (ho : o.op = .store ty x y)
    (g i : Nat) (t : TypeId) (cs : Array Value) (v : Value) (hx : a.eval x = .pointer (some ⟨g, i, none⟩)) (hy : a.eval y = v) (hB : Blk w g t cs) (hs : i < cs.size) (hi : (P.info? ty).map (·.size) = some 1) (h1 : v.oneCell' = true)
    (h : ∀ w', Blk w' g t (cs.setIfInBounds i v) → Only [g] w w' → w'.heap.size = w.heap.size → K (a.put o.dst undef) w') : o.wp P a w K Q := by
  unfold Oper.wp execOp
  simp only [ho, hx, hy, Instr.storeAt, Instr.sureAddr, Sem.run_bind, Sem.run_pure, Result.andThen_ok, run_store_cell w g i ty v (hB.there (by omega)) hi h1]
  exact h _ (hB.set_ i v) ((Only.refl _ _).setCell (.inl (by simp)) _) (by simp [World.setCell])
/-- one cell of a block known whole is stored -/
theorem wpList_setq (hgd : o.guard = none) (ty : TypeId) (x y : Operand) (ho : o.op = .store ty x y)
    (g i : Nat) (t : TypeId) (cs : Array Value) (v : Value) (hx : a.eval x = .pointer (some ⟨g, i, none⟩)) (hy : a.eval y = v) (hB : Blk w g t cs) (hs : i < cs.size) (hi : (P.info? ty).map (·.size) = some 1) (h1 : v.oneCell' = true)
    (h : ∀ w', Blk w' g t (cs.setIfInBounds i v) → Only [g] w w' → w'.heap.size = w.heap.size → wpList P ops Q rest (a.put o.dst undef) w') : wpList P ops Q (o :: rest) a w :=
  wpList_plain hgd fun _ hK => wp_setq ty x y ho g i t cs v hx hy hB hs hi h1 fun w' h1 h2 h3 => hK _ _ (h w' h1 h2 h3)
/-- a block known whole is stored over -/
theorem wpList_storeq (hgd : o.guard = none) (ty : TypeId) (x y : Operand) (ho : o.op = .store ty x y)
    (g : Nat) (cs : Array Value) (vs : List Value) (hx : a.eval x = .pointer (some ⟨g, 0, none⟩)) (hy : a.eval y = .agg vs.toArray) (hB : Blk w g ty cs) (hs : vs.length = cs.size) (hi : (P.info? ty).map (·.size) = some vs.length) (h1 : ∀ v ∈ vs, v.oneCell' = true)
    (h : ∀ w', Blk w' g ty vs.toArray → Only [g] w w' → w'.heap.size = w.heap.size → wpList P ops Q rest (a.put o.dst undef) w') : wpList P ops Q (o :: rest) a w :=
  wpList_store_mid hgd ty x y ho g 0 vs.toArray hx hy (hB.there (by simp [hs])) (by simpa using hi) (all_oneCell_toArray h1)
    (h _ (by simpa using hB.over vs hs) ((Only.refl _ _).grown (by simpa using (setCells_grown g vs 0 w).1) (fun k e => .inl (by injection e with e; simp [e]))) (by simpa using (setCells_grown g vs 0 w).2))
theorem wpList_loadq (hgd : o.guard = none) (ty : TypeId) (x : Operand) (ho : o.op = .load ty x)
    (g : Nat) (cs : List Value) (d : TypeDesc) (hx : a.eval x = .pointer (some ⟨g, 0, none⟩)) (hB : Blk w g ty cs.toArray) (hu : P.underlying ty = some d) (hd : d.isRow = true) (hi : (P.info? ty).map (·.size) = some cs.length)
    (h : wpList P ops Q rest (a.put o.dst (.agg cs.toArray)) w) : wpList P ops Q (o :: rest) a w :=
  wpList_load_mid hgd ty x ho g 0 hx cs d hB.range hu hd hi h
/-- a struct that lies somewhere is loaded -/
theorem run_loadVar_cells {ty : TypeId} {d : TypeDesc} (hu : P.underlying ty = some d) (hd : d.isRow = true) (w : World) (p : Addr) (cs : List Value) (hi : (P.info? ty).map (·.size) = some cs.length) (hc : ∀ j v, cs[j]? = some v → w.cell? (p.add j) = some v) : (loadVar ty p).run P w = .ok (.agg cs.toArray) w := by
  have hl : (loadCells p cs.length).run P w = .ok cs.toArray w := run_loadCells_list (P := P) w p cs hc
  have hagg : (isAgg ty).run P w = .ok true w := by
    unfold isAgg
    rw [Sem.run_bind, run_underlying hu w]
    cases d <;> first | rfl | cases hd
  cases hq : P.info? ty with
  | none => simp [hq] at hi
  | some i =>
    have hs : i.size = cs.length := by simpa [hq] using hi
    simp [loadVar, Sem.run_bind, hagg, sizeOf, typeInfo, hq, hs, hl]
theorem wpList_loadp (hgd : o.guard = none) (ty : TypeId) (x : Operand) (ho : o.op = .load ty x)
    (p : Addr) (cs : List Value) (d : TypeDesc) (hx : a.eval x = .pointer (some p)) (hc : ∀ j v, cs[j]? = some v → w.cell? (p.add j) = some v) (hu : P.underlying ty = some d) (hd : d.isRow = true) (hi : (P.info? ty).map (·.size) = some cs.length)
    (h : wpList P ops Q rest (a.put o.dst (.agg cs.toArray)) w) : wpList P ops Q (o :: rest) a w :=
  wpList_plain hgd fun _ hK => by
    unfold Oper.wp execOp
    simp only [ho, hx, Instr.loadAt, Instr.sureAddr, Sem.run_bind, Sem.run_pure, Result.andThen_ok, run_loadVar_cells hu hd w p cs hi hc]
    exact hK _ _ h
end
theorem Blk.only {F : List Nat} {w w' : World} {g : Nat} {t : TypeId} {cs : Array Value} (h : Blk w g t cs) (ho : Only F w w') (hn : g ∉ F) : Blk w' g t cs := h.of (ho.block g h.lt hn)
/-- the names of a row -/
def strs (l : List (List Nat)) : List Value := l.map fun c => .string (strOf c)
theorem strs_len (l : List (List Nat)) : (strs l).length = l.length := by simp [strs]
def Strs (w : World) (B : Nat) (A : Option Addr) (n : Nat) (l : List (List Nat)) : Prop := Reads w B 1 A n (strs l) ∧ ∀ c ∈ l, ∀ b ∈ c, b < 256
section
variable {w w' : World} {B B' n : Nat} {A : Option Addr} {l : List (List Nat)}
theorem Strs.len (h : Strs w B A n l) : l.length = n := by have := h.1.1; rw [strs_len] at this; omega
theorem Strs.since (h : Strs w B A n l) (hb : Below w.heap.size w w') : Strs w' B A n l := ⟨h.1.since hb, h.2⟩
theorem Strs.more (h : Strs w B A n l) (hB : B ≤ B') : Strs w B' A n l := ⟨h.1.more hB, h.2⟩
theorem Strs.drew (h : Strs w B A n l) : Strs w.drew B A n l := h
theorem Strs.drewN (h : Strs w B A n l) (k : Nat) : Strs (w.drewN k) B A n l := h
theorem Strs.at_ {k : Nat} (h : Strs w B A n l) (hk : k < n) : ∃ ad c, A = some ad ∧ l[k]? = some c ∧ (∀ b ∈ c, b < 256) ∧ w.cell? (ad.add k) = some (.string (strOf c)) := by
  obtain ⟨ad, u, e, hb, hx, hc⟩ := Reads.at_ h.1 hk
  have hl : k < l.length := by have := h.len; omega
  refine ⟨ad, l[k], e, List.getElem?_eq_getElem hl, h.2 _ (List.getElem_mem hl), ?_⟩
  rw [hc, ← hx]
  simp [strs, hl]
end
theorem strs_one (l : List (List Nat)) : ∀ u ∈ strs l, u.oneCell' = true := by
  intro u hu
  obtain ⟨b, _, rfl⟩ := List.mem_map.1 hu
  rfl
theorem str_eq {a b : List Nat} (ha : ∀ x ∈ a, x < 256) (hb : ∀ x ∈ b, x < 256) : ((strOf a).toList == (strOf b).toList) = decide (a = b) := by
  rw [Bool.eq_iff_iff, beq_iff_eq, decide_eq_true_iff, ByteArray.toList_eq, ByteArray.toList_eq]
  exact ⟨fun e => strOf_inj ha hb (Go.WideShapes.bytes_inj e), fun e => by rw [e]⟩
/-- a view of a head or a snapshot, and where its marks lie -/
structure VA where
  size : Int
  on : Bool
  good : Bool
  row : List Nat
  M : Option Addr
  cm : Nat
  par : List Nat
  ps : Int
  ov : Int
def VA.mk' (s : VA) : MkV := ⟨s.on, s.good, s.row⟩
def VA.lk (s : VA) : LkV := ⟨s.par, s.ps, s.ov⟩
def VA.cs (s : VA) : Array Value := #[.int .i64 s.size, .bool s.on, .bool s.good, .slice s.M s.row.length s.cm, .string (strOf s.par), .int .i64 s.ps, .int .i64 s.ov]
structure VA.R (s : VA) (w : World) : Prop where
  row : Bytes w w.heap.size s.M s.row.length s.row
  par : ∀ b ∈ s.par, b < 256
  size : I64 s.size
  ps : I64 s.ps
  ov : I64 s.ov
  l1 : s.row.length ≤ 9223372036854775807
  l2 : s.par.length ≤ 9223372036854775807
  c1 : s.row.length ≤ s.cm
theorem VA.R.since {s : VA} {w w' : World} (h : s.R w) (hb : Below w.heap.size w w') : s.R w' := ⟨(h.row.since hb).more hb.size, h.par, h.size, h.ps, h.ov, h.l1, h.l2, h.c1⟩
structure VA.Sm (s : VA) : Prop where
  row : s.row.length ≤ 10000
  par : s.par.length ≤ 1000000
/-- a snapshot, and where it lies -/
structure SA where
  num : Int
  name : List Nat
  prot : Bool
  vw : VA
  ch : List (List Nat)
  C : Option Addr
  cc : Nat
def SA.v (s : SA) : SnV := ⟨s.num, s.vw.size, s.name, s.prot, s.vw.mk', s.vw.lk, s.ch⟩
/-- as the program's; as the document's -/
def SA.cells (s : SA) : List Value := [.int .i64 s.num, .int .i64 s.vw.size, .string (strOf s.name), .bool s.vw.on, .bool s.vw.good, .bool s.prot, .slice s.vw.M s.vw.row.length s.vw.cm, .string (strOf s.vw.par), .int .i64 s.vw.ps, .int .i64 s.vw.ov, .slice s.C s.ch.length s.cc]
def SA.dcells (s : SA) : List Value := [.int .i64 s.num, .int .i64 s.vw.size, .string (strOf s.name), .bool s.prot, .bool s.vw.on, .bool s.vw.good, .slice s.vw.M s.vw.row.length s.vw.cm, .string (strOf s.vw.par), .int .i64 s.vw.ps, .int .i64 s.vw.ov, .slice s.C s.ch.length s.cc]
theorem SA.cells_len (s : SA) : s.cells.length = 11 := rfl
theorem SA.dcells_len (s : SA) : s.dcells.length = 11 := rfl
theorem SA.cells_one (s : SA) : ∀ u ∈ s.cells, u.oneCell' = true := by
  intro u hu
  simp [SA.cells] at hu
  rcases hu with rfl | rfl | rfl | rfl | rfl | rfl | rfl | rfl | rfl | rfl | rfl <;> rfl
structure SA.R (s : SA) (w : World) : Prop where
  vw : s.vw.R w
  ch : Strs w w.heap.size s.C s.ch.length s.ch
  name : ∀ b ∈ s.name, b < 256
  num : I64 s.num
  l1 : s.ch.length ≤ 9223372036854775807
  l2 : s.name.length ≤ 9223372036854775807
  c1 : s.ch.length ≤ s.cc
theorem SA.R.since {s : SA} {w w' : World} (h : s.R w) (hb : Below w.heap.size w w') : s.R w' := ⟨h.vw.since hb, (h.ch.since hb).more hb.size, h.name, h.num, h.l1, h.l2, h.c1⟩
structure SA.Sm (s : SA) : Prop where
  vw : s.vw.Sm
  name : s.name.length ≤ 1000000
  ch : s.ch.length ≤ 10000
  cl : ∀ c ∈ s.ch, c.length ≤ 1000000
/-- a head, and where it lies -/
structure HA where
  id : Int
  obj : Int
  seq : Int
  S : Option Addr
  cs' : Nat
  sn : List SA
  vw : VA
  ow : Int
  it : Int
  tg : Int
def HA.v (h : HA) : HdV := ⟨h.id, h.vw.size, h.obj, h.seq, h.sn.map SA.v, h.vw.mk', h.vw.lk, h.ow, h.it, h.tg⟩
def HA.cs (h : HA) : Array Value := #[.int .i64 h.id, .int .i64 h.vw.size, .int .i64 h.obj, .int .i64 h.seq, .slice h.S h.sn.length h.cs', .bool h.vw.on, .bool h.vw.good, .slice h.vw.M h.vw.row.length h.vw.cm, .string (strOf h.vw.par), .int .i64 h.vw.ps, .int .i64 h.vw.ov, .int .i64 h.ow, .int .i64 h.it, .int .i64 h.tg]
structure HA.R (h : HA) (cf : SA → List Value) (w : World) : Prop where
  vw : h.vw.R w
  row : Reads w w.heap.size 11 h.S h.sn.length (h.sn.flatMap cf)
  sn : ∀ s ∈ h.sn, s.R w
  id : I64 h.id
  obj : I64 h.obj
  seq : I64 h.seq
  ow : I64 h.ow
  it : I64 h.it
  tg : I64 h.tg
  l1 : h.sn.length ≤ 9223372036854775807
  c1 : h.sn.length ≤ h.cs'
theorem HA.R.since {h : HA} {cf : SA → List Value} {w w' : World} (hR : h.R cf w) (hb : Below w.heap.size w w') : h.R cf w' := ⟨hR.vw.since hb, (hR.row.since hb).more hb.size, fun s hs => (hR.sn s hs).since hb, hR.id, hR.obj, hR.seq, hR.ow, hR.it, hR.tg, hR.l1, hR.c1⟩
structure HA.Sm (h : HA) : Prop where
  vw : h.vw.Sm
  cn : h.sn.length ≤ 1000
  sn : ∀ s ∈ h.sn, s.Sm
theorem snap_at {w : World} {B : Nat} {A : Option Addr} {l : List SA} {cf : SA → List Value} (hcf : ∀ s, (cf s).length = 11) (h : Reads w B 11 A l.length (l.flatMap cf)) {k : Nat} {s : SA} (hk : l[k]? = some s) : ∃ ad, A = some ad ∧ ad.block < B ∧ ∀ j v, (cf s)[j]? = some v → w.cell? ((ad.add (k * 11)).add j) = some v := by
  have hl := (List.getElem?_eq_some_iff.1 hk).1
  obtain ⟨ad, e, hb, hc⟩ := h.2 (by omega)
  refine ⟨ad, e, hb, fun j v hj => ?_⟩
  rw [add_of_add]
  have hj2 : j < 11 := by have := (List.getElem?_eq_some_iff.1 hj).1; rwa [hcf] at this
  exact hc _ v (by rw [flat_at cf 11 hcf l k j s hk hj2]; exact hj)
end Go.Proofs.Ytiimanoloedbeaa

/-
  Names, objects, views of heads. Conditions: numbers are 64 bits wide, texts no more than a million.
-/
namespace Go.Proofs.Ytiimanoloedbeaa
open Go.RowKit Go.BigFrame
set_option linter.unusedSimpArgs false
set_option linter.unusedVariables false
set_option maxRecDepth 100000
theorem wrap_in {n : Int} (h : I64 n) : IntKind.i64.wrap n = n := by
  unfold I64 at h
  rw [IntKind.wrap_i64]
  omega
theorem objs_range {size obj : Int} (h1 : I64 size) (h2 : I64 obj) : I64 (objsOf size obj) := by
  unfold I64 objsOf at *
  split
  · omega
  · rename_i h
    have a1 : 1 ≤ obj := by omega
    have a2 : 0 ≤ size - 1 := by omega
    have a3 : 0 ≤ (size - 1) / obj := Int.ediv_nonneg a2 (by omega)
    have a4 : (size - 1) / obj ≤ size - 1 := Int.ediv_le_self _ a2
    omega
theorem objects_any (size obj : Int) (h1 : I64 size) (h2 : I64 obj) (w : World) : Calls Try.prog 32 #[.int .i64 size, .int .i64 obj] w fun e w' => e = .returned (.int .i64 (objsOf size obj)) ∧ w = w' := by
  by_cases a : size < 1
  · have hd1 : decide (size < (1 : Int)) = true := decide_eq_true a
    have he : objsOf size obj = 0 := by unfold objsOf; rw [if_pos (.inl a)]
    rw [he]
    go_enter Try.func32, Try.ntmps32
    go_wp2
    go_ret
    exact ⟨rfl, rfl⟩
  · have hd1 : decide (size < (1 : Int)) = false := decide_eq_false a
    by_cases b : obj < 1
    · have hd2 : decide (obj < (1 : Int)) = true := decide_eq_true b
      have he : objsOf size obj = 0 := by unfold objsOf; rw [if_pos (.inr b)]
      rw [he]
      go_enter Try.func32, Try.ntmps32
      go_wp2
      go_ret
      exact ⟨rfl, rfl⟩
    · have hd2 : decide (obj < (1 : Int)) = false := decide_eq_false b
      have he : objsOf size obj = (size - 1) / obj + 1 := by unfold objsOf; rw [if_neg (by omega)]
      have hr := objs_range h1 h2
      rw [he] at hr ⊢
      have hq : (size - 1).tdiv obj = (size - 1) / obj := Int.tdiv_eq_ediv_of_nonneg (by omega)
      have w1 : IntKind.i64.wrap (size - 1) = size - 1 := wrap_in (by unfold I64 at *; omega)
      have w2 : IntKind.i64.wrap ((size - 1) / obj) = (size - 1) / obj := wrap_in (by have a3 : 0 ≤ (size - 1) / obj := Int.ediv_nonneg (by omega) (by omega); unfold I64 at *; clear w1 hq; omega)
      have w3 : IntKind.i64.wrap ((size - 1) / obj + 1) = (size - 1) / obj + 1 := wrap_in hr
      have hne : obj ≠ 0 := by omega
      have hne2 : (obj == 0) = false := by simpa using hne
      go_enter Try.func32, Try.ntmps32
      go_wp2
      go_ret
      exact ⟨rfl, rfl⟩
theorem isobj_any (n : Int) (w : World) : Calls Try.prog 44 #[.int .i64 n] w fun e w' => e = .returned (.bool (isObjB n)) ∧ w = w' := by
  unfold isObjB
  by_cases a : n = 16
  · subst a
    go_enter Try.func44, Try.ntmps44
    go_wp2
    go_ret
    exact ⟨rfl, rfl⟩
  have a' : (n == 16) = false := by simpa using a
  by_cases b : n = 32
  · subst b
    go_enter Try.func44, Try.ntmps44
    go_wp2
    go_ret
    exact ⟨rfl, rfl⟩
  have b' : (n == 32) = false := by simpa using b
  by_cases c : n = 64
  · subst c
    go_enter Try.func44, Try.ntmps44
    go_wp2
    go_ret
    exact ⟨rfl, rfl⟩
  have c' : (n == 64) = false := by simpa using c
  by_cases d : n = 128
  · subst d
    go_enter Try.func44, Try.ntmps44
    go_wp2
    go_ret
    exact ⟨rfl, rfl⟩
  have d' : (n == 128) = false := by simpa using d
  by_cases f : n = 256
  · subst f
    go_enter Try.func44, Try.ntmps44
    go_wp2
    go_ret
    exact ⟨rfl, rfl⟩
  have f' : (n == 256) = false := by simpa using f
  rw [a', b', c', d', f']
  go_enter Try.func44, Try.ntmps44
  go_wp2
  go_ret
  exact ⟨rfl, rfl⟩
theorem sign_cases (b : Nat) : (okSign b = true ∧ ((97 ≤ b ∧ b ≤ 122) ∨ (48 ≤ b ∧ b ≤ 57) ∨ b = 45)) ∨ (okSign b = false ∧ (b < 97 ∨ 122 < b) ∧ (b < 48 ∨ 57 < b) ∧ b ≠ 45) := by
  unfold okSign
  by_cases h1 : 97 ≤ b <;> by_cases h2 : b ≤ 122 <;> by_cases h3 : 48 ≤ b <;> by_cases h4 : b ≤ 57 <;> by_cases h5 : b = 45 <;> simp [h1, h2, h3, h4, h5] <;> omega
set_option maxHeartbeats 2000000 in
theorem named_any (bs : List Nat) (hb : ∀ b ∈ bs, b < 256) (hl : bs.length ≤ 1000000) (w : World) : Calls Try.prog 95 #[.string (strOf bs)] w fun e w' => e = .returned (.bool (namedB bs)) ∧ Below w.heap.size w w' := by
  have hsz := strOf_size bs
  unfold namedB
  by_cases h1 : 1 ≤ bs.length
  · have hd1 : decide ((bs.length : Int) < 1) = false := decide_eq_false (by omega)
    have hd1' : decide (1 ≤ bs.length) = true := decide_eq_true h1
    by_cases h2 : bs.length ≤ 20
    · have hd2 : decide (20 < (bs.length : Int)) = false := decide_eq_false (by omega)
      have hd2' : decide (bs.length ≤ 20) = true := decide_eq_true h2
      have hr' : ∀ q, (decide (1 ≤ bs.length) && decide (bs.length ≤ 20) && q) = q := fun q => by rw [hd1', hd2']; cases q <;> rfl
      rw [hr']
      have HB := Lib.hid hb
      obtain ⟨cap, w2, hr, hbl, hby⟩ := conv_str w bs HB.out
      have HBL := Lib.hid (And.intro hbl hby)
      clear hb hbl hby hr'
      go_enter Try.func95, Try.ntmps95
      go_wp2
      go_loopw [16] (fun i wr => ∃ k : Nat, k ≤ bs.length ∧ i = .int .i64 k ∧ wr = w2 ∧ (bs.take k).all okSign = true) (fun i _ => bs.length - (intOf i).toNat)
      case atStart => exact ⟨0, by omega, rfl, by trivial, rfl⟩
      case round =>
        obtain ⟨k, hk, rfl, rfl, hall⟩ := hrel
        have HA := Lib.hid hall
        clear hall
        by_cases hlt : k < bs.length
        · obtain ⟨ad, b, had, hb, hb2, hc⟩ := HBL.out.2.at_ hlt
          have hts : (bs.take (k + 1)).all okSign = okSign b := by
            rw [List.take_add_one, hb, List.all_append, HA.out]
            simp
          have HB2 := Lib.hid hb
          have HTS := Lib.hid hts
          have hwk : IntKind.i64.wrap ((k : Int) + 1) = (k : Int) + 1 := by rw [IntKind.wrap_i64]; omega
          injection had with had
          subst had
          rw [add_zero_off] at hc
          clear hb hts
          rcases sign_cases b with ⟨hok, hs⟩ | ⟨hok, hs1, hs2, hs3⟩
          · have HOK := Lib.hid hok
            clear hok
            rcases hs with ⟨ha, hz⟩ | ⟨ha, hz⟩ | rfl
            · have d1 : decide ((b : Int) < 97) = false := decide_eq_false (by omega)
              have d2 : decide (122 < (b : Int)) = false := decide_eq_false (by omega)
              go_wp2
              go_roundw
              case rel => exact ⟨k + 1, by omega, by go_num, by trivial, by rw [HTS.out]; exact HOK.out⟩
              case measure => simp [intOf]; omega
            · have d1 : decide ((b : Int) < 97) = true := decide_eq_true (by omega)
              have d3 : decide ((b : Int) < 48) = false := decide_eq_false (by omega)
              have d4 : decide (57 < (b : Int)) = false := decide_eq_false (by omega)
              go_wp2
              go_roundw
              case rel => exact ⟨k + 1, by omega, by go_num, by trivial, by rw [HTS.out]; exact HOK.out⟩
              case measure => simp [intOf]; omega
            · go_wp2
              go_roundw
              case rel => exact ⟨k + 1, by omega, by go_num, by trivial, by rw [HTS.out]; exact HOK.out⟩
              case measure => simp [intOf]; omega
          · have hres : bs.all okSign = false := by
              rw [List.all_eq_false]
              exact ⟨b, List.mem_of_getElem? HB2.out, by rw [hok]; simp⟩
            have HR := Lib.hid hres
            have d5 : ((b : Int) != 45) = true := by simp; omega
            clear hok hres
            by_cases c1 : b < 97
            · have d1 : decide ((b : Int) < 97) = true := decide_eq_true (by omega)
              by_cases c2 : b < 48
              · have d3 : decide ((b : Int) < 48) = true := decide_eq_true (by omega)
                go_wp2
                go_ret
                exact ⟨by rw [HR.out]; rfl, HBL.out.1⟩
              · have d3 : decide ((b : Int) < 48) = false := decide_eq_false (by omega)
                have d4 : decide (57 < (b : Int)) = true := decide_eq_true (by omega)
                go_wp2
                go_ret
                exact ⟨by rw [HR.out]; rfl, HBL.out.1⟩
            · have d1 : decide ((b : Int) < 97) = false := decide_eq_false (by omega)
              have d2 : decide (122 < (b : Int)) = true := decide_eq_true (by omega)
              have d3 : decide ((b : Int) < 48) = false := decide_eq_false (by omega)
              have d4 : decide (57 < (b : Int)) = true := decide_eq_true (by omega)
              go_wp2
              go_ret
              exact ⟨by rw [HR.out]; rfl, HBL.out.1⟩
        · obtain rfl : k = bs.length := by omega
          have hres : bs.all okSign = true := by have := HA.out; rwa [List.take_length] at this
          have HR := Lib.hid hres
          clear hres
          go_wp2
          go_ret
          exact ⟨by rw [HR.out]; rfl, HBL.out.1⟩
    · have hd2 : decide (20 < (bs.length : Int)) = true := decide_eq_true (by omega)
      have hd2' : decide (bs.length ≤ 20) = false := decide_eq_false h2
      have hr' : (decide (1 ≤ bs.length) && decide (bs.length ≤ 20) && bs.all okSign) = false := by rw [hd1', hd2']; rfl
      rw [hr']
      go_enter Try.func95, Try.ntmps95
      go_wp2
      go_ret
      exact ⟨rfl, Below.refl _ _⟩
  · have hd1 : decide ((bs.length : Int) < 1) = true := decide_eq_true (by omega)
    have hd1' : decide (1 ≤ bs.length) = false := decide_eq_false h1
    have hr' : (decide (1 ≤ bs.length) && decide (bs.length ≤ 20) && bs.all okSign) = false := by rw [hd1']; rfl
    rw [hr']
    go_enter Try.func95, Try.ntmps95
    go_wp2
    go_ret
    exact ⟨rfl, Below.refl _ _⟩
end Go.Proofs.Ytiimanoloedbeaa

/-
  What views say. Conditions: they read as they are said to.
-/
namespace Go.Proofs.Ytiimanoloedbeaa
open Go.RowKit Go.BigFrame
set_option linter.unusedSimpArgs false
set_option linter.unusedVariables false
set_option maxRecDepth 100000
theorem blk_two (w : World) (o : Obj) (t : TypeId) (cs : Array Value) : Blk ((w.alloc o).alloc (.cells cs t)) (w.heap.size + 1) t cs := by
  have := Blk.new (w.alloc o) t cs
  rwa [World.size_alloc] at this
def ViewTo (w : World) (v : VA) (e : Ending) (w' : World) : Prop := e = .returned (.agg v.cs) ∧ Below w.heap.size w w'
set_option maxHeartbeats 1000000 in
theorem hview_any (h : HA) (w : World) : Calls Try.prog 35 #[.agg h.cs] w (ViewTo w h.vw) := by
  unfold HA.cs
  go_enter Try.func35, Try.ntmps35
  go_wp2
  refine bodyPost_ret (results_cell_row rfl _ _ (w.heap.size + 1) 82 h.vw.cs (0, 0) _ rfl (blk_two _ _ _ _) Try.underlying82 rfl (by kernel_rfl)) rfl ?_
  exact ⟨rfl, (below_alloc w _).alloc (by simp) _⟩
set_option maxHeartbeats 1000000 in
theorem sview_any (s : SA) (w : World) : Calls Try.prog 87 #[.agg s.cells.toArray] w (ViewTo w s.vw) := by
  unfold SA.cells
  go_enter Try.func87, Try.ntmps87
  go_wp2
  refine bodyPost_ret (results_cell_row rfl _ _ (w.heap.size + 1) 82 s.vw.cs (0, 0) _ rfl (blk_two _ _ _ _) Try.underlying82 rfl (by kernel_rfl)) rfl ?_
  exact ⟨rfl, (below_alloc w _).alloc (by simp) _⟩
theorem empty_str (bs : List Nat) (hb : ∀ b ∈ bs, b < 256) : ((strOf bs).toList == (ByteArray.mk #[]).toList) = bs.isEmpty := by
  have h : strOf [] = ByteArray.mk #[] := rfl
  rw [← h, str_eq hb (by simp), Bool.eq_iff_iff, decide_eq_true_iff, List.isEmpty_iff]
theorem empty_list (bs : List Nat) (hb : ∀ b ∈ bs, b < 256) : (strOf bs).toList.isEmpty = bs.isEmpty := by
  rw [← empty_str bs hb]
  have : (ByteArray.mk #[]).toList = [] := by rw [ByteArray.toList_eq]
  rw [this]
  cases (strOf bs).toList <;> rfl
set_option maxHeartbeats 4000000 in
theorem linked_any (v : VA) (w : World) (h : v.R w) (hS : v.Sm) : Calls Try.prog 94 #[.agg v.cs] w fun e w' => e = .returned (.bool (v.lk.B v.size)) ∧ Below w.heap.size w w' := by
  have he := empty_list v.par h.par
  have B0 := fun (o : Obj) => below_alloc w o
  unfold VA.cs LkV.B
  show Calls _ _ _ _ fun e w' => e = .returned (.bool (if v.par.isEmpty then decide (v.ps = 0) && decide (v.ov = 0) else namedB v.par && decide (1 ≤ v.ps) && decide (0 ≤ v.ov) && decide (v.ov ≤ v.size))) ∧ _
  cases hem : v.par.isEmpty with
  | true =>
    rw [hem] at he
    have he2 : (strOf v.par).toList = [] := List.isEmpty_iff.1 he
    rw [if_pos rfl]
    clear h hem hS
    by_cases c1 : v.ps = 0
    · have d1 : decide (v.ps = 0) = true := decide_eq_true c1
      by_cases c2 : v.ov = 0
      · have d2 : decide (v.ov = 0) = true := decide_eq_true c2
        rw [d1, d2]
        go_enter Try.func94, Try.ntmps94
        go_wp2
        go_ret
        exact ⟨rfl, B0 _⟩
      · have d2 : decide (v.ov = 0) = false := decide_eq_false c2
        rw [d1, d2]
        go_enter Try.func94, Try.ntmps94
        go_wp2
        go_ret
        exact ⟨rfl, B0 _⟩
    · have d1 : decide (v.ps = 0) = false := decide_eq_false c1
      rw [d1, Bool.false_and]
      go_enter Try.func94, Try.ntmps94
      go_wp2
      go_ret
      exact ⟨rfl, B0 _⟩
  | false =>
    rw [hem] at he
    rw [if_neg (by simp)]
    have HN := Lib.hid (named_any v.par h.par hS.par)
    clear h hS hem
    cases hn : namedB v.par with
    | false =>
      rw [hn] at HN
      clear hn
      go_enter Try.func94, Try.ntmps94
      go_wp2_with fail
      refine (HN.out _).mono ?_
      rintro e w1 ⟨rfl, b1⟩
      go_wp2
      go_ret
      exact ⟨rfl, (B0 _).trans (b1.mono (B0 _).size)⟩
    | true =>
      rw [hn] at HN
      clear hn
      rw [Bool.true_and]
      go_enter Try.func94, Try.ntmps94
      go_wp2_with fail
      refine (HN.out _).mono ?_
      rintro e w1 ⟨rfl, b1⟩
      have k : Blk w1 w.heap.size 82 v.cs := (Blk.new w 82 v.cs).of (b1.block _ (by simp))
      unfold VA.cs at k
      have k1 : w1.cell? ⟨w.heap.size, 0, none⟩ = some (.int .i64 v.size) := k.cell 0
      have k5 : w1.cell? ⟨w.heap.size, 5, none⟩ = some (.int .i64 v.ps) := k.cell 5
      have k6 : w1.cell? ⟨w.heap.size, 6, none⟩ = some (.int .i64 v.ov) := k.cell 6
      have HB : Hid (Below w.heap.size w w1) := Lib.hid ((B0 _).trans (b1.mono (B0 _).size))
      clear b1 k HN B0
      by_cases c1 : 1 ≤ v.ps
      · have d1 : decide (1 ≤ v.ps) = true := decide_eq_true c1
        by_cases c2 : 0 ≤ v.ov
        · have d2 : decide (0 ≤ v.ov) = true := decide_eq_true c2
          go_wp2
          go_ret
          exact ⟨by rw [d1, d2]; rfl, HB.out⟩
        · have d2 : decide (0 ≤ v.ov) = false := decide_eq_false c2
          go_wp2
          go_ret
          exact ⟨by rw [d1, d2]; rfl, HB.out⟩
      · have d1 : decide (1 ≤ v.ps) = false := decide_eq_false c1
        go_wp2
        go_ret
        exact ⟨by rw [d1]; rfl, HB.out⟩
theorem put_both (w : World) (A : Option Addr) (n c : Nat) (bs : List Nat) (hn : n ≤ 10000) (hb : Bytes w w.heap.size A n bs) :
    Calls Try.prog 89 #[.slice A n c] w fun e w' => Below w.heap.size w w' ∧ ((Good bs ∧ ∃ v, e = .returned (.tuple #[v, .nilIface]) ∧ Own w' w.heap.size v (putM bs).length (putM bs)) ∨ (¬ Good bs ∧ e = .returned (.tuple #[.slice none 0 0, errV 2]))) := by
  by_cases hg : Good bs
  · refine (put_ok A n c bs w hb hg).mono ?_
    rintro e w' ⟨rfl, k, b⟩
    have hl := hb.len
    have hp : (putM bs).length = 2 + (n + 3) / 4 := by rw [putM_len, hl]
    refine ⟨b, .inl ⟨hg, _, rfl, ?_⟩⟩
    rw [hp]
    refine ⟨by rw [u8s_length, hp]; omega, .inr ⟨w.heap.size, _, _, rfl, Nat.le_refl _, k, Nat.le_refl _, by simp only [maxLen]; omega, ?_, ?_⟩⟩
    · simp [u8s_length, hp]
    · rw [List.take_of_length_le (by simp [u8s_length, hp])]
  · refine (put_bad A n c _ bs w hn hb hg).mono ?_
    rintro e w' ⟨rfl, rfl⟩
    exact ⟨Below.refl _ _, .inr ⟨hg, rfl⟩⟩
set_option maxHeartbeats 4000000 in
theorem marked_any (v : VA) (obj : Int) (ho : I64 obj) (w : World) (h : v.R w) (hS : v.Sm) : Calls Try.prog 93 #[.agg v.cs, .int .i64 obj] w fun e w' => e = .returned (.bool (v.mk'.B (objsOf v.size obj))) ∧ Below w.heap.size w w' := by
  have B0 := fun (o : Obj) => below_alloc w o
  have hsz := h.size
  have hln : ((v.row.length : Int) == 0) = v.row.isEmpty := by rw [Bool.eq_iff_iff, beq_iff_eq, List.isEmpty_iff, ← List.length_eq_zero_iff]; omega
  unfold VA.cs MkV.B
  show Calls _ _ _ _ fun e w' => e = .returned (.bool (if v.on then decide (Good v.row) && decide ((v.row.length : Int) = objsOf v.size obj) else v.row.isEmpty && !v.good)) ∧ _
  cases hon : v.on with
  | false =>
    rw [if_neg (by simp)]
    cases hem : v.row.isEmpty with
    | false =>
      rw [hem] at hln
      clear h
      go_enter Try.func93, Try.ntmps93
      go_wp2
      go_ret
      exact ⟨rfl, B0 _⟩
    | true =>
      rw [hem] at hln
      clear h
      go_enter Try.func93, Try.ntmps93
      go_wp2
      go_ret
      exact ⟨rfl, B0 _⟩
  | true =>
    rw [if_pos rfl]
    have hb : Bytes (w.alloc (.cells v.cs 82)) (w.alloc (.cells v.cs 82)).heap.size v.M v.row.length v.row := (h.row.since (below_alloc w _)).more (by simp)
    have HP := Lib.hid (put_both (w.alloc (.cells v.cs 82)) v.M v.row.length v.cm v.row hS.row hb)
    have hK := Blk.new w 82 v.cs
    have HK := Lib.hid hK
    unfold VA.cs at HP HK
    rw [hon] at HP HK
    clear h hb hK hln
    go_enter Try.func93, Try.ntmps93
    go_wp2_with fail
    refine HP.out.mono ?_
    rintro e w1 ⟨b1, ⟨hg, p, rfl, hp⟩ | ⟨hg, rfl⟩⟩
    · have d1 : decide (Good v.row) = true := decide_eq_true hg
      have k := HK.out.of (b1.block _ HK.out.lt)
      have HB : Hid (Below w.heap.size w w1) := Lib.hid ((B0 _).trans (b1.mono (B0 _).size))
      have k0 : w1.cell? ⟨w.heap.size, 0, none⟩ = some (.int .i64 v.size) := k.cell 0
      have k3 : w1.cell? ⟨w.heap.size, 3, none⟩ = some (.slice v.M v.row.length v.cm) := k.cell 3
      have HO := Lib.hid (objects_any v.size obj hsz ho)
      have hq : ((v.row.length : Int) == objsOf v.size obj) = decide ((v.row.length : Int) = objsOf v.size obj) := by rw [Bool.eq_iff_iff, beq_iff_eq, decide_eq_true_iff]
      obtain ⟨bb, hbb⟩ : ∃ bb, bb = decide ((v.row.length : Int) = objsOf v.size obj) := ⟨_, rfl⟩
      rw [← hbb] at hq
      have HBB := Lib.hid hbb
      clear b1 k hp HP HK B0 hbb
      go_wp2
      go_quiet ((go_at_call 32; exact Calls.quiet_of_same ((HO.out _).mono fun e w' h => ⟨h.1, h.2.symm⟩)))
      go_wp2
      go_ret
      exact ⟨by rw [d1, ← HBB.out]; rfl, below_drewN HB.out _⟩
    · have d1 : decide (Good v.row) = false := decide_eq_false hg
      have HB : Hid (Below w.heap.size w w1) := Lib.hid ((B0 _).trans (b1.mono (B0 _).size))
      clear b1 HP HK B0
      simp only [errV]
      go_wp2
      go_quiet (fail)
      go_wp2
      go_ret
      exact ⟨by rw [d1]; rfl, below_drewN HB.out _⟩
end Go.Proofs.Ytiimanoloedbeaa
