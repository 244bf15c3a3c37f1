/-
  Words for memory, plain: a slice value that reads as a list of cells, of bytes; a block that is known whole. No condition; nothing of the program is named.
-/
import Derived.Below
import Derived.Laws.OwnMore
import Derived.Deep.AppendLies
import Derived.Deep.Draws
import Derived.Laws.Rows
import Derived.Lib.Hide
import Derived.Maps.AppendAt
import Derived.RegionTactic
import Derived.OwnWalk
import Derived.Laws.BitsAllLaws
import Derived.WalkKit
import Derived.ProofKit
import Derived.Test.YtgddenhnpjoabaaRows
import Derived.Handy
import Derived.WalkLawsBesides
import Derived.WalkSpells
import Derived.MapKept
import Derived.Maps.Own
import Derived.Tactics
import Derived.Deep.MidRow
import Derived.Laws.BytesArg
import Derived.Outline
import Derived.Deep.RegionHeld3
import Derived.Great.FillDense
import Derived.Laws.Tables
import Derived.Great.BuildSlice
import Derived.KernelRfl
import Derived.Deep.WholeRow

namespace Go.Proofs.Ytgddenhnpjoabaa
open Go.RowKit

theorem block_of_add (a : Addr) (n : Nat) : (a.add n).block = a.block := by unfold Addr.add; split <;> rfl
theorem add_of_add (a : Addr) (i j : Nat) : (a.add i).add j = a.add (i + j) := by
  unfold Addr.add
  by_cases hi : i = 0 <;> by_cases hj : j = 0 <;> simp [hi, hj, Nat.add_assoc]

/-- the slice value at A holds the cells xs and lies below block B -/
def Reads (w : World) (B size : Nat) (A : Option Addr) (n : Nat) (xs : List Value) : Prop :=
  xs.length = n * size ∧ (0 < n → ∃ ad, A = some ad ∧ ad.block < B ∧ ∀ j u, xs[j]? = some u → w.cell? (ad.add j) = some u)

section
variable {w w' : World} {B B' size n : Nat} {A : Option Addr} {xs : List Value}
theorem Reads.none_ : Reads w B size A 0 [] := ⟨by simp, fun h => absurd h (by omega)⟩
theorem Reads.at_ {k : Nat} (h : Reads w B 1 A n xs) (hk : k < n) : ∃ ad u, A = some ad ∧ ad.block < B ∧ xs[k]? = some u ∧ w.cell? (ad.add k) = some u := by
  obtain ⟨ad, e, hb, hc⟩ := h.2 (by omega)
  have hl : k < xs.length := by have := h.1; omega
  exact ⟨ad, xs[k], e, hb, List.getElem?_eq_getElem hl, hc k _ (List.getElem?_eq_getElem hl)⟩
theorem Reads.keep (h : Reads w B size A n xs) (hk : ∀ p : Addr, p.block < B → w'.cell? p = w.cell? p) : Reads w' B size A n xs :=
  ⟨h.1, fun hn => by
    obtain ⟨ad, e, hb, hc⟩ := h.2 hn
    exact ⟨ad, e, hb, fun j u hu => (hk _ (by rw [block_of_add]; exact hb)).trans (hc j u hu)⟩⟩
theorem Reads.more (h : Reads w B size A n xs) (hB : B ≤ B') : Reads w B' size A n xs :=
  ⟨h.1, fun hn => by
    obtain ⟨ad, e, hb, hc⟩ := h.2 hn
    exact ⟨ad, e, by omega, hc⟩⟩
theorem Reads.below (h : Reads w B size A n xs) (hb : Below B w w') : Reads w' B size A n xs := h.keep fun _ hp => hb.cell hp
theorem Reads.drew (h : Reads w B size A n xs) : Reads w.drew B size A n xs := h
theorem Reads.drewN (h : Reads w B size A n xs) (k : Nat) : Reads (w.drewN k) B size A n xs := h
theorem Reads.alloc (h : Reads w B size A n xs) (hB : B ≤ w.heap.size) (o : Obj) : Reads (w.alloc o) B size A n xs := h.keep fun p hp => World.cell?_alloc_lt w o p (by omega)
theorem Reads.setCell (h : Reads w B size A n xs) {p : Addr} (hB : B ≤ p.block) (u : Value) : Reads (w.setCell p u) B size A n xs :=
  h.keep fun q hq => World.cell?_setCell_other w p q u (fun e => by subst e; omega)
theorem Reads.grown (h : Reads w B size A n xs) {row : Option Nat} (hg : w.grownBy w' row) (hB : B ≤ w.heap.size) (hr : ∀ g, row = some g → B ≤ g) : Reads w' B size A n xs :=
  h.keep fun p hp => World.cell?_of_block (hg.block p.block (by omega) (fun e => by have := hr _ e.symm; omega))
theorem Reads.cut (h : Reads w B size A n xs) {k cap : Nat} (hk : k ≤ n) (hc : n ≤ cap) :
    Reads w B size (if cap = k then A else A.map (·.add (k * size))) (n - k) (xs.drop (k * size)) := by
  refine ⟨by rw [List.length_drop, h.1, Nat.sub_mul], fun hn => ?_⟩
  obtain ⟨ad, rfl, hb, hcell⟩ := h.2 (by omega)
  rw [if_neg (by omega)]
  refine ⟨ad.add (k * size), rfl, by rw [block_of_add]; exact hb, fun j u hu => ?_⟩
  rw [add_of_add]
  exact hcell _ u (by rw [← hu, List.getElem?_drop])
theorem Reads.take (h : Reads w B 1 A n xs) {k : Nat} (hk : k ≤ n) : Reads w B 1 A k (xs.take k) := by
  refine ⟨by rw [List.length_take, h.1]; omega, fun hn => ?_⟩
  obtain ⟨ad, rfl, hb, hcell⟩ := h.2 (by omega)
  exact ⟨ad, rfl, hb, fun j u hu => hcell j u (by
    rw [List.getElem?_take] at hu
    split at hu
    · exact hu
    · cases hu)⟩
theorem Reads.of_own {base : Nat} {e : TypeId} {c : Nat} (h : w.ownsRow base e size (.slice A n c) n xs) : Reads w w.heap.size size A n xs := by
  refine ⟨h.1, fun hn => ?_⟩
  obtain ⟨g, cap, hv, _, hlt⟩ := h.form hn
  have hA : A = some ⟨g, 0, none⟩ := by injection hv
  subst hA
  exact ⟨_, rfl, hlt, h.cells (g := g) rfl⟩
end

/-- a byte as a value; bytes as values -/
def u8 (b : Nat) : Value := .int .u8 (b : Int)
def u8s (bs : List Nat) : List Value := bs.map u8
/-- the slice value at A, of length n, holds the bytes bs -/
def Bytes (w : World) (B : Nat) (A : Option Addr) (n : Nat) (bs : List Nat) : Prop := Reads w B 1 A n (u8s bs) ∧ ∀ b ∈ bs, b < 256

section
variable {w w' : World} {B B' n : Nat} {A : Option Addr} {bs : List Nat}
theorem u8s_length (bs : List Nat) : (u8s bs).length = bs.length := by simp [u8s]
theorem Bytes.len (h : Bytes w B A n bs) : bs.length = n := by have := h.1.1; rw [u8s_length] at this; omega
theorem Bytes.at_ {k : Nat} (h : Bytes w B A n bs) (hk : k < n) : ∃ (ad : Addr) (b : Nat), A = some ad ∧ bs[k]? = some b ∧ b < 256 ∧ w.cell? (ad.add k) = some (.int .u8 (b : Int)) := by
  obtain ⟨ad, u, e, hb, hx, hc⟩ := h.1.at_ hk
  have hl : k < bs.length := by have := h.len; omega
  refine ⟨ad, bs[k], e, List.getElem?_eq_getElem hl, h.2 _ (List.getElem_mem hl), ?_⟩
  rw [hc, ← hx]
  simp [u8s, u8, hl]
theorem Bytes.at2 {k : Nat} (h : Bytes w B A n bs) (hk : k < n) : ∃ (ad : Addr) (b : Nat), A = some ad ∧ bs[k]? = some b ∧ b < 256 ∧ w.cell? (ad.add k) = some (.int .u8 (b : Int)) ∧ (ad.add k).block < B := by
  obtain ⟨ad, u, e, hb, hx, hc⟩ := h.1.at_ hk
  obtain ⟨ad', b, e', h1, h2, h3⟩ := h.at_ hk
  rw [e] at e'
  injection e' with e'
  subst e'
  exact ⟨ad, b, e, h1, h2, h3, by rw [block_of_add]; exact hb⟩
theorem Bytes.keep (h : Bytes w B A n bs) (hk : ∀ p : Addr, p.block < B → w'.cell? p = w.cell? p) : Bytes w' B A n bs := ⟨h.1.keep hk, h.2⟩
theorem Bytes.more (h : Bytes w B A n bs) (hB : B ≤ B') : Bytes w B' A n bs := ⟨h.1.more hB, h.2⟩
theorem Bytes.below (h : Bytes w B A n bs) (hb : Below B w w') : Bytes w' B A n bs := ⟨h.1.below hb, h.2⟩
theorem Bytes.drew (h : Bytes w B A n bs) : Bytes w.drew B A n bs := h
theorem Bytes.drewN (h : Bytes w B A n bs) (k : Nat) : Bytes (w.drewN k) B A n bs := h
theorem Bytes.alloc (h : Bytes w B A n bs) (hB : B ≤ w.heap.size) (o : Obj) : Bytes (w.alloc o) B A n bs := ⟨h.1.alloc hB o, h.2⟩
theorem Bytes.up (h : Bytes w w.heap.size A n bs) (o : Obj) : Bytes (w.alloc o) (w.alloc o).heap.size A n bs := (h.alloc (Nat.le_refl _) o).more (by simp)
theorem Bytes.take (h : Bytes w B A n bs) {k : Nat} (hk : k ≤ n) : Bytes w B A k (bs.take k) :=
  ⟨by have := h.1.take hk; rwa [u8s, ← List.map_take] at this, fun b hb => h.2 b (List.mem_of_mem_take hb)⟩
theorem Bytes.setCell (h : Bytes w B A n bs) {p : Addr} (hB : B ≤ p.block) (u : Value) : Bytes (w.setCell p u) B A n bs := ⟨h.1.setCell hB u, h.2⟩
theorem Bytes.grown (h : Bytes w B A n bs) {row : Option Nat} (hg : w.grownBy w' row) (hB : B ≤ w.heap.size) (hr : ∀ g, row = some g → B ≤ g) : Bytes w' B A n bs := ⟨h.1.grown hg hB hr, h.2⟩
end
theorem add_zero_off (g j : Nat) : (⟨g, 0, none⟩ : Addr).add j = ⟨g, j, none⟩ := by
  unfold Addr.add
  split
  · simp_all
  · simp
theorem Reads.new (w : World) (cs : List Value) (t : TypeId) (f : Nat × Nat) : Reads (w.alloc (.cells cs.toArray t f)) (w.heap.size + 1) 1 (some ⟨w.heap.size, 0, none⟩) cs.length cs := by
  refine ⟨by simp, fun _ => ⟨_, rfl, Nat.lt_succ_self _, fun j u hu => ?_⟩⟩
  rw [add_zero_off, cell_of_row _ _ _ _ _ _ (heap_alloc_new w _)]
  simpa using hu
theorem Reads.newN (w : World) (cs : List Value) (n size : Nat) (t : TypeId) (f : Nat × Nat) (hn : cs.length = n * size) : Reads (w.alloc (.cells cs.toArray t f)) (w.heap.size + 1) size (some ⟨w.heap.size, 0, none⟩) n cs :=
  ⟨hn, fun h0 => ⟨_, rfl, Nat.lt_succ_self _, fun j u hu => by
    rw [add_zero_off, cell_of_row _ _ _ _ _ _ (heap_alloc_new w _)]
    simpa using hu⟩⟩
theorem Bytes.new (w : World) (bs : List Nat) (t : TypeId) (f : Nat × Nat) (hb : ∀ b ∈ bs, b < 256) : Bytes (w.alloc (.cells (u8s bs).toArray t f)) (w.heap.size + 1) (some ⟨w.heap.size, 0, none⟩) bs.length bs :=
  ⟨by have := Reads.new w (u8s bs) t f; rwa [u8s_length] at this, hb⟩
theorem oneCell_u8s (bs : List Nat) : ∀ u ∈ u8s bs, u.oneCell' = true := by
  intro u hu
  obtain ⟨b, _, rfl⟩ := List.mem_map.1 hu
  rfl
theorem take_snoc {l : List Nat} {k b : Nat} (h : l[k]? = some b) : l.take (k + 1) = l.take k ++ [b] := by
  rw [List.take_add_one, h]; rfl
theorem below_drewN {B : Nat} {a w : World} (h : Below B a w) (n : Nat) : Below B a (w.drewN n) := ⟨h.os, h.tape, h.output, h.size, h.block⟩
theorem ret_int {k : IntKind} {a b : Int} (h : a = b) : Ending.returned (.int k a) = .returned (.int k b) := by rw [h]

/-! ### a block known whole -/
def Blk (w : World) (g : Nat) (t : TypeId) (cs : Array Value) : Prop := w.heap[g]? = some (.cells cs t (0, 0))

section
variable {w w' : World} {g : Nat} {t : TypeId} {cs : Array Value}
theorem Blk.lt (h : Blk w g t cs) : g < w.heap.size := by
  rcases Nat.lt_or_ge g w.heap.size with hlt | hge
  · exact hlt
  · unfold Blk at h; rw [Array.getElem?_eq_none hge] at h; cases h
theorem Blk.cell (h : Blk w g t cs) (i : Nat) : w.cell? ⟨g, i, none⟩ = cs[i]? := cell_of_row w g i cs t (0, 0) h
theorem Blk.frozen (h : Blk w g t cs) (i : Nat) : w.frozen? ⟨g, i, none⟩ = false := by
  unfold Blk at h
  simp [World.frozen?, h]
theorem Blk.new (w : World) (t : TypeId) (cs : Array Value) : Blk (w.alloc (.cells cs t)) w.heap.size t cs := heap_alloc_new w _
theorem Blk.drew (h : Blk w g t cs) : Blk w.drew g t cs := h
theorem Blk.drewN (h : Blk w g t cs) (n : Nat) : Blk (w.drewN n) g t cs := h
theorem Blk.alloc (h : Blk w g t cs) (o : Obj) : Blk (w.alloc o) g t cs := (Below.heap_alloc w o g h.lt).trans h
theorem Blk.set_ (h : Blk w g t cs) (i : Nat) (u : Value) : Blk (w.setCell ⟨g, i, none⟩ u) g t (cs.setIfInBounds i u) := by
  unfold Blk at h ⊢
  simp [World.setCell, Array.getElem?_modify, h]
theorem Blk.far (h : Blk w g t cs) {p : Addr} (hp : g ≠ p.block) (u : Value) : Blk (w.setCell p u) g t cs := (Below.heap_setCell w p u g hp).trans h
theorem Blk.below {B : Nat} (h : Blk w g t cs) (hb : Below B w w') (hg : g < B) : Blk w' g t cs := (hb.block g hg).trans h
theorem Blk.grown {row : Option Nat} (h : Blk w g t cs) (hb : w.grownBy w' row) (hg : some g ≠ row) : Blk w' g t cs := (hb.block g h.lt hg).trans h
theorem Blk.ne_ {g' : Nat} {t' : TypeId} {cs' : Array Value} (h : Blk w g t cs) (h' : Blk w g' t' cs') (hne : t ≠ t') : g ≠ g' := by
  rintro rfl
  unfold Blk at h h'
  rw [h] at h'
  injection h' with h'
  injection h' with _ ht
  exact hne ht
theorem own_blk_ne {base : Nat} {e : TypeId} {size n : Nat} {v : Value} {xs : List Value} (h : w.ownsRow base e size v n xs) (hg : Blk w g t cs) (hne : e ≠ t) : v.ownBlock ≠ some g := by
  rcases h.2 with ⟨rfl, _⟩ | ⟨g', cap, cur, rfl, _, hh, _⟩
  · simp [Value.ownBlock]
  · intro he
    have : g' = g := by simpa [Value.ownBlock] using he
    subst this
    exact Blk.ne_ (t := e) hh hg hne rfl
end

/-! ### append onto a row of the call's own -/
section
variable {P : Program} (w : World)

theorem run_append_of_nil (base : Nat) (t ty e : TypeId) (i : TypeInfo) (size : Nat) (ht : P.underlying t = some (.slice e)) (hi : P.info? e = some i)
    (v : Value) (n : Nat) (xs : List Value) (hown : w.ownsRow base e size v n xs) (c : Nat) : (Builtin.append_ #[t, t] ty #[v, .slice none 0 c]).run P w = .ok v w := by
  rcases hown.2 with ⟨rfl, rfl⟩ | ⟨g, cap, cur, rfl, _, _, hnc, _⟩
  · simp [Builtin.append_, run_underlying ht, sizeOf, typeInfo, hi, Builtin.lenOf, Builtin.firstCells]
  · simp [Builtin.append_, run_underlying ht, sizeOf, typeInfo, hi, Builtin.lenOf, Builtin.firstCells, hnc, storeCells]

theorem run_append_any (base : Nat) (t ty e : TypeId) (i : TypeInfo) (z : Value) (size bytes : Nat) (ht : P.underlying t = some (.slice e)) (hi : P.info? e = some i) (hz : i.zero = some z)
    (hsize : i.size = size) (hby : i.bytes = bytes) (hzs : z.cells.size = size) (hsz : 0 < size)
    (v : Value) (n : Nat) (xs : List Value) (hown : w.ownsRow base e size v n xs)
    (B : Nat) (A : Option Addr) (m c : Nat) (news : List Value) (hr : Reads w B size A m news) (h1 : ∀ u ∈ news, u.oneCell' = true)
    (h63 : n + m ≤ maxLen) (hbytes : (n + m) * bytes ≤ 140737488355328) (hbase : base ≤ w.heap.size) :
    ∃ v' w', (Builtin.append_ #[t, t] ty #[v, .slice A m c]).run P w = .ok v' w' ∧ w'.ownsRow base e size v' (n + m) (xs ++ news) ∧ w.grownBy w' v.ownBlock ∧
      (v'.ownBlock = v.ownBlock ∨ v'.ownBlock = some w.heap.size) := by
  rcases A with _ | ad
  · have hm : m = 0 := by
      rcases Nat.eq_zero_or_pos m with h0 | h0
      · exact h0
      · obtain ⟨ad, h, _⟩ := hr.2 h0
        cases h
    subst hm
    have hn : news = [] := List.eq_nil_of_length_eq_zero (by simpa using hr.1)
    subst hn
    exact ⟨v, w, run_append_of_nil w base t ty e i size ht hi v n xs hown c, by simpa using hown, World.grownBy.refl w _, .inl rfl⟩
  · have hcells : ∀ j u, news[j]? = some u → w.cell? (ad.add j) = some u := by
      intro j u hu
      rcases Nat.eq_zero_or_pos m with h0 | h0
      · subst h0
        have hn : news = [] := List.eq_nil_of_length_eq_zero (by simpa using hr.1)
        subst hn
        simp at hu
      · obtain ⟨ad', h, _, hc⟩ := hr.2 h0
        injection h with h
        subst h
        exact hc j u hu
    obtain ⟨v', w', hrun, h2, h3, _, h5⟩ := run_append_own_at (P := P) w base t ty e i z size bytes ht hi hz hsize hby hzs hsz v n xs hown ad m c news hr.1 hcells h1 h63 hbytes hbase
    exact ⟨v', w', hrun, h2, h3, h5⟩

theorem wp_append_any {o : Oper} {a : Act} {K : Act → World → Prop} {Q : Exit → Act → World → Prop} (s x : Operand) (t : TypeId)
    (ho : o.op = .call { callee := .builtin .append, args := #[s, x], argTypes := #[t, t] })
    (base : Nat) (e : TypeId) (i : TypeInfo) (z : Value) (size bytes : Nat) (ht : P.underlying t = some (.slice e)) (hi : P.info? e = some i) (hz : i.zero = some z)
    (hsize : i.size = size) (hby : i.bytes = bytes) (hzs : z.cells.size = size) (hsz : 0 < size)
    (v : Value) (n : Nat) (xs : List Value) (hs : a.eval s = v) (hown : w.ownsRow base e size v n xs)
    (B : Nat) (A : Option Addr) (m c : Nat) (news : List Value) (hx : a.eval x = .slice A m c) (hr : Reads w B size A m news) (h1 : ∀ u ∈ news, u.oneCell' = true)
    (h63 : n + m ≤ maxLen) (hbytes : (n + m) * bytes ≤ 140737488355328) (hbase : base ≤ w.heap.size)
    (h : ∀ v' w', w'.ownsRow base e size v' (n + m) (xs ++ news) → w.grownBy w' v.ownBlock → (v'.ownBlock = v.ownBlock ∨ v'.ownBlock = some w.heap.size) → K (a.put o.dst v') w') : o.wp P a w K Q := by
  obtain ⟨v', w', hrun, h2, h3, h4⟩ := run_append_any (P := P) w base t o.type e i z size bytes ht hi hz hsize hby hzs hsz v n xs hown B A m c news hr h1 h63 hbytes hbase
  unfold Oper.wp execOp
  simp only [ho, resolve, invoke, builtin, Sem.run_bind, Sem.run_pure, Result.andThen_ok, List.map_toArray, List.map_cons, List.map_nil, hs, hx, hrun]
  exact h v' w' h2 h3 h4

theorem wpList_append_any {ops : Array Oper} {rest : List Oper} {o : Oper} {a : Act} {Q : Exit → Act → World → Prop} (hgd : o.guard = none) (s x : Operand) (t : TypeId)
    (ho : o.op = .call { callee := .builtin .append, args := #[s, x], argTypes := #[t, t] })
    (base : Nat) (e : TypeId) (i : TypeInfo) (z : Value) (size bytes : Nat) (ht : P.underlying t = some (.slice e)) (hi : P.info? e = some i) (hz : i.zero = some z)
    (hsize : i.size = size) (hby : i.bytes = bytes) (hzs : z.cells.size = size) (hsz : 0 < size)
    (v : Value) (n : Nat) (xs : List Value) (hs : a.eval s = v) (hown : w.ownsRow base e size v n xs)
    (B : Nat) (A : Option Addr) (m c : Nat) (news : List Value) (hx : a.eval x = .slice A m c) (hr : Reads w B size A m news) (h1 : ∀ u ∈ news, u.oneCell' = true)
    (h63 : n + m ≤ maxLen) (hbytes : (n + m) * bytes ≤ 140737488355328) (hbase : base ≤ w.heap.size)
    (h : ∀ v' w', w'.ownsRow base e size v' (n + m) (xs ++ news) → w.grownBy w' v.ownBlock → (v'.ownBlock = v.ownBlock ∨ v'.ownBlock = some w.heap.size) → wpList P ops Q rest (a.put o.dst v') w') : wpList P ops Q (o :: rest) a w :=
  wpList_plain hgd fun _ hK => wp_append_any w s x t ho base e i z size bytes ht hi hz hsize hby hzs hsz v n xs hs hown B A m c news hx hr h1 h63 hbytes hbase fun v' w' h2 h3 h4 => hK _ _ (h v' w' h2 h3 h4)

theorem step_append_any {ops : Array Oper} {o : Oper} {a : Act} {K : Act → World → Prop} {Q : Exit → Act → World → Prop} {E : Prop} (hgd : o.guard = none) (s x : Operand) (t : TypeId)
    (ho : o.op = .call { callee := .builtin .append, args := #[s, x], argTypes := #[t, t] })
    (base : Nat) (e : TypeId) (i : TypeInfo) (z : Value) (size bytes : Nat) (ht : P.underlying t = some (.slice e)) (hi : P.info? e = some i) (hz : i.zero = some z)
    (hsize : i.size = size) (hby : i.bytes = bytes) (hzs : z.cells.size = size) (hsz : 0 < size)
    (v : Value) (n : Nat) (xs : List Value) (hs : a.eval s = v) (hown : w.ownsRow base e size v n xs)
    (B : Nat) (A : Option Addr) (m c : Nat) (news : List Value) (hx : a.eval x = .slice A m c) (hr : Reads w B size A m news) (h1 : ∀ u ∈ news, u.oneCell' = true)
    (h63 : n + m ≤ maxLen) (hbytes : (n + m) * bytes ≤ 140737488355328) (hbase : base ≤ w.heap.size)
    (h : ∀ v' w', w'.ownsRow base e size v' (n + m) (xs ++ news) → w.grownBy w' v.ownBlock → (v'.ownBlock = v.ownBlock ∨ v'.ownBlock = some w.heap.size) → K (a.put o.dst v') w') :
    if Region.wanted o (yielded ops a.tmps) = true then Oper.wp P o a w K Q else E := by
  have hw : Region.wanted o (yielded ops a.tmps) = true := by simp [Region.wanted, hgd]
  rw [if_pos hw]
  exact wp_append_any w s x t ho base e i z size bytes ht hi hz hsize hby hzs hsz v n xs hs hown B A m c news hx hr h1 h63 hbytes hbase h
end

end Go.Proofs.Ytgddenhnpjoabaa

/-
  Marks, plain: a row's marks, their bytes, and back; which may have changed. No condition; nothing of the program is named.
-/
namespace Go.Proofs.Ytgddenhnpjoabaa
set_option linter.unusedSimpArgs false
set_option linter.unusedVariables false
/-- a mark; 0 beyond the row -/
def mk (m : List Nat) (i : Nat) : Nat := (m[i]?).getD 0
theorem mk_at {m : List Nat} {i x : Nat} (h : m[i]? = some x) : mk m i = x := by simp [mk, h]
theorem mk_over {m : List Nat} {i : Nat} (h : m.length ≤ i) : mk m i = 0 := by simp [mk, List.getElem?_eq_none h]
theorem mk_take (m : List Nat) (i k : Nat) : mk (m.take i) k = if k < i then mk m k else 0 := by
  unfold mk
  rw [List.getElem?_take]
  split <;> rfl
theorem mk_le {m : List Nat} (h : ∀ x ∈ m, x ≤ 3) (i : Nat) : mk m i ≤ 3 := by
  by_cases hi : i < m.length
  · rw [mk_at (List.getElem?_eq_getElem hi)]
    exact h _ (List.getElem_mem hi)
  · rw [mk_over (by omega)]; omega
theorem mk_lt {m : List Nat} (h : ∀ x ∈ m, x < 256) (i : Nat) : mk m i < 256 := by
  by_cases hi : i < m.length
  · rw [mk_at (List.getElem?_eq_getElem hi)]
    exact h _ (List.getElem_mem hi)
  · rw [mk_over (by omega)]; omega
/-- the byte of four marks -/
def packB (m : List Nat) (j : Nat) : Nat := mk m (4 * j) + 4 * mk m (4 * j + 1) + 16 * mk m (4 * j + 2) + 64 * mk m (4 * j + 3)
theorem packB_lt {m : List Nat} (h : ∀ x ∈ m, x ≤ 3) (j : Nat) : packB m j < 256 := by
  have h0 := mk_le h (4 * j)
  have h1 := mk_le h (4 * j + 1)
  have h2 := mk_le h (4 * j + 2)
  have h3 := mk_le h (4 * j + 3)
  unfold packB
  omega
def packs (m : List Nat) (k : Nat) : List Nat := (List.range k).map (packB m)
theorem packs_len (m : List Nat) (k : Nat) : (packs m k).length = k := by simp [packs]
theorem packs_at (m : List Nat) {k j : Nat} (h : j < k) : (packs m k)[j]? = some (packB m j) := by simp [packs, h]
theorem packs_snoc (m : List Nat) (k : Nat) : packs m (k + 1) = packs m k ++ [packB m k] := by simp [packs, List.range_succ]
/-- marks as bytes -/
def putM (m : List Nat) : List Nat := [m.length % 256, m.length / 256] ++ packs m ((m.length + 3) / 4)
theorem putM_len (m : List Nat) : (putM m).length = 2 + (m.length + 3) / 4 := by simp [putM, packs_len]; omega
def Good (m : List Nat) : Prop := m.length ≤ 256 ∧ ∀ x ∈ m, x ≤ 3
instance (m : List Nat) : Decidable (Good m) := by unfold Good; infer_instance
theorem putM_lt {m : List Nat} (h : Good m) : ∀ b ∈ putM m, b < 256 := by
  intro b hb
  have := h.1
  simp only [putM, packs, List.mem_append, List.mem_cons, List.not_mem_nil, or_false, List.mem_map, List.mem_range] at hb
  rcases hb with (rfl | rfl) | ⟨j, _, rfl⟩
  · omega
  · omega
  · exact packB_lt h.2 j
theorem or_add : ∀ r, r < 4 → ∀ a, a < 4 ^ r → ∀ x, x < 4 → a ||| (x <<< (2 * r)) = a + x * 4 ^ r ∧ x <<< (2 * r) < 256 := by decide
theorem part_lt {m : List Nat} (h : ∀ x ∈ m, x ≤ 3) (i : Nat) : packB (m.take i) (i / 4) < 4 ^ (i % 4) := by
  obtain ⟨q, r, hr, rfl⟩ : ∃ q r, r < 4 ∧ i = 4 * q + r := ⟨i / 4, i % 4, by omega, by omega⟩
  have e1 : (4 * q + r) / 4 = q := by omega
  have e2 : (4 * q + r) % 4 = r := by omega
  rw [e1, e2]
  unfold packB
  simp only [mk_take]
  have h0 := mk_le h (4 * q)
  have h1 := mk_le h (4 * q + 1)
  have h2 := mk_le h (4 * q + 2)
  match r, hr with
  | 0, _ => rw [Nat.pow_zero]; repeat' split
            all_goals omega
  | 1, _ => simp; omega
  | 2, _ => simp; omega
  | 3, _ => simp; omega
/-- one mark more -/
theorem part_step {m : List Nat} (h : ∀ x ∈ m, x ≤ 3) (i : Nat) : packB (m.take i) (i / 4) ||| (mk m i <<< (2 * (i % 4))) = packB (m.take (i + 1)) (i / 4) := by
  have hlt := part_lt h i
  rw [(or_add (i % 4) (by omega) _ hlt (mk m i) (by have := mk_le h i; omega)).1]
  obtain ⟨q, r, hr, rfl⟩ : ∃ q r, r < 4 ∧ i = 4 * q + r := ⟨i / 4, i % 4, by omega, by omega⟩
  have e1 : (4 * q + r) / 4 = q := by omega
  have e2 : (4 * q + r) % 4 = r := by omega
  rw [e1, e2]
  unfold packB
  simp only [mk_take]
  clear hlt
  match r, hr with
  | 0, _ => simp only [Nat.pow_zero, Nat.add_zero]; repeat' split
            all_goals omega
  | 1, _ => simp only [Nat.pow_one]; repeat' split
            all_goals omega
  | 2, _ => simp only [show (4 : Nat) ^ 2 = 16 from rfl]; repeat' split
            all_goals omega
  | 3, _ => simp only [show (4 : Nat) ^ 3 = 64 from rfl]; repeat' split
            all_goals omega
theorem part_other (m : List Nat) (i j : Nat) (hj : j ≠ i / 4) : packB (m.take (i + 1)) j = packB (m.take i) j := by
  unfold packB
  simp only [mk_take]
  have e : ∀ k, k < 4 → ((if 4 * j + k < i + 1 then mk m (4 * j + k) else 0) = if 4 * j + k < i then mk m (4 * j + k) else 0) := fun k hk => by
    by_cases h1 : 4 * j + k < i
    · rw [if_pos h1, if_pos (by omega)]
    · rw [if_neg h1, if_neg (by omega)]
  have e0 := e 0 (by omega)
  rw [Nat.add_zero] at e0
  rw [e0, e 1 (by omega), e 2 (by omega), e 3 (by omega)]
/-- the bytes behind i marks -/
def part (m : List Nat) (i : Nat) : List Nat := [m.length % 256, m.length / 256] ++ packs (m.take i) ((m.length + 3) / 4)
theorem part_len (m : List Nat) (i : Nat) : (part m i).length = 2 + (m.length + 3) / 4 := by simp [part, packs_len]; omega
theorem part_all (m : List Nat) : part m m.length = putM m := by simp [part, putM]
theorem part_at (m : List Nat) (i : Nat) (h : i < m.length) : (part m i)[2 + i / 4]? = some (packB (m.take i) (i / 4)) := by
  unfold part
  rw [List.getElem?_append_right (by simp), show 2 + i / 4 - [m.length % 256, m.length / 256].length = i / 4 by simp, packs_at _ (by omega)]
theorem part_set {m : List Nat} (hg : ∀ x ∈ m, x ≤ 3) (i : Nat) (h : i < m.length) : (part m i).set (2 + i / 4) (packB (m.take i) (i / 4) ||| (mk m i <<< (2 * (i % 4)))) = part m (i + 1) := by
  rw [part_step hg]
  unfold part
  rw [List.set_append_right _ _ (by simp), show 2 + i / 4 - [m.length % 256, m.length / 256].length = i / 4 by simp]
  congr 1
  apply List.ext_getElem?
  intro j
  rw [List.getElem?_set]
  by_cases hj : i / 4 = j
  · subst hj
    rw [if_pos rfl, packs_len, if_pos (by omega), packs_at _ (by omega)]
  · rw [if_neg hj]
    by_cases hl : j < (m.length + 3) / 4
    · rw [packs_at _ hl, packs_at _ hl, part_other m i j (Ne.symm hj)]
    · rw [List.getElem?_eq_none (by rw [packs_len]; omega), List.getElem?_eq_none (by rw [packs_len]; omega)]
theorem part_lt256 {m : List Nat} (h : Good m) (i : Nat) : ∀ b ∈ part m i, b < 256 := by
  intro b hb
  have := h.1
  simp only [part, packs, List.mem_append, List.mem_cons, List.not_mem_nil, or_false, List.mem_map, List.mem_range] at hb
  rcases hb with (rfl | rfl) | ⟨j, _, rfl⟩
  · omega
  · omega
  · exact packB_lt (fun x hx => h.2 x (List.mem_of_mem_take hx)) j
/-- a mark of bytes -/
def unp (b : List Nat) (i : Nat) : Nat := mk b (2 + i / 4) / 4 ^ (i % 4) % 4
def takeM (b : List Nat) (n : Nat) : List Nat := (List.range n).map (unp b)
theorem takeM_len (b : List Nat) (n : Nat) : (takeM b n).length = n := by simp [takeM]
theorem takeM_snoc (b : List Nat) (n : Nat) : takeM b (n + 1) = takeM b n ++ [unp b n] := by simp [takeM, List.range_succ]
theorem takeM_le (b : List Nat) (n : Nat) : ∀ x ∈ takeM b n, x ≤ 3 := by
  intro x hx
  obtain ⟨i, _, rfl⟩ := List.mem_map.1 hx
  unfold unp
  omega
theorem putM_mk (m : List Nat) (j : Nat) (h : j < (m.length + 3) / 4) : mk (putM m) (2 + j) = packB m j := by
  apply mk_at
  unfold putM
  rw [List.getElem?_append_right (by simp), show 2 + j - [m.length % 256, m.length / 256].length = j by simp, packs_at _ h]
theorem unp_put {m : List Nat} (h : Good m) (i : Nat) (hi : i < m.length) : unp (putM m) i = mk m i := by
  unfold unp
  rw [putM_mk m _ (by omega)]
  obtain ⟨q, r, hr, rfl⟩ : ∃ q r, r < 4 ∧ i = 4 * q + r := ⟨i / 4, i % 4, by omega, by omega⟩
  have e1 : (4 * q + r) / 4 = q := by omega
  have e2 : (4 * q + r) % 4 = r := by omega
  rw [e1, e2]
  have h0 := mk_le h.2 (4 * q)
  have h1 := mk_le h.2 (4 * q + 1)
  have h2 := mk_le h.2 (4 * q + 2)
  have h3 := mk_le h.2 (4 * q + 3)
  unfold packB
  match r, hr with
  | 0, _ => simp; omega
  | 1, _ => simp; omega
  | 2, _ => simp; omega
  | 3, _ => simp; omega
theorem take_put {m : List Nat} (h : Good m) : takeM (putM m) m.length = m := by
  apply List.ext_getElem?
  intro i
  by_cases hi : i < m.length
  · rw [takeM, List.getElem?_map, List.getElem?_range hi, Option.map_some, unp_put h i hi, List.getElem?_eq_getElem hi]
    congr 1
    exact mk_at (List.getElem?_eq_getElem hi)
  · rw [List.getElem?_eq_none (by rw [takeM_len]; omega), List.getElem?_eq_none (by omega)]
/-- how many marks bytes say they hold -/
def countOf (b : List Nat) : Nat := mk b 0 + 256 * mk b 1
theorem count_put {m : List Nat} : countOf (putM m) = m.length := by
  show m.length % 256 + 256 * (m.length / 256) = _
  omega
/-- the marks of bytes, where they are some's -/
def TakeOk (b : List Nat) : Prop := 2 ≤ b.length ∧ countOf b ≤ 256 ∧ b.length = 2 + (countOf b + 3) / 4 ∧ putM (takeM b (countOf b)) = b
instance (b : List Nat) : Decidable (TakeOk b) := by unfold TakeOk; infer_instance
theorem ok_put {m : List Nat} (h : Good m) : TakeOk (putM m) := by
  refine ⟨by rw [putM_len]; omega, by rw [count_put]; exact h.1, by rw [count_put, putM_len], ?_⟩
  rw [count_put, take_put h]
/-- 3 in place of 1 -/
def frz (x : Nat) : Nat := if x = 1 then 3 else x
def frozenM (m : List Nat) : List Nat := m.map frz
/-- may this one have changed? -/
def chg (a b : Nat) : Bool := a == 1 || a == 2 || ((a == 0) != (b == 0))
def changedTo (m old : List Nat) (k : Nat) : List Int := ((List.range k).filter fun i => chg (mk m i) (mk old i)).map fun (i : Nat) => (i : Int)
theorem changedTo_succ (m old : List Nat) (k : Nat) : changedTo m old (k + 1) = changedTo m old k ++ (if chg (mk m k) (mk old k) then [(k : Int)] else []) := by
  unfold changedTo
  rw [List.range_succ, List.filter_append, List.map_append]
  by_cases h : chg (mk m k) (mk old k) = true
  · simp [h]
  · have : chg (mk m k) (mk old k) = false := by simpa using h
    simp [this]
theorem changedTo_len (m old : List Nat) : ∀ k, (changedTo m old k).length ≤ k
  | 0 => by simp [changedTo]
  | k + 1 => by
    rw [changedTo_succ, List.length_append]
    have := changedTo_len m old k
    split <;> simp <;> omega
/-- flags -/
def fl (m : List Bool) (i : Nat) : Bool := (m[i]?).getD false
def scanB (there clean : List Bool) (i : Nat) : Nat := if fl there i then (if fl clean i then 3 else 1) else 0
def scanTo (there clean : List Bool) (k : Nat) : List Nat := (List.range k).map (scanB there clean)
theorem scanTo_len (there clean : List Bool) (k : Nat) : (scanTo there clean k).length = k := by simp [scanTo]
theorem scanTo_snoc (there clean : List Bool) (k : Nat) : scanTo there clean (k + 1) = scanTo there clean k ++ [scanB there clean k] := by simp [scanTo, List.range_succ]
theorem scanTo_lt (there clean : List Bool) (k : Nat) : ∀ b ∈ scanTo there clean k, b < 256 := by
  intro b hb
  obtain ⟨i, _, rfl⟩ := List.mem_map.1 hb
  unfold scanB
  split
  · split <;> omega
  · omega
/-- all that are there are marked -/
def coversTo (m : List Nat) (there : List Bool) (k : Nat) : Bool := (List.range k).all fun i => !fl there i || mk m i != 0
theorem coversTo_succ (m : List Nat) (there : List Bool) (k : Nat) : coversTo m there (k + 1) = (coversTo m there k && (!fl there k || mk m k != 0)) := by
  simp [coversTo, List.range_succ, List.all_append]
/-- the first n, filled up -/
def sizedM (m : List Nat) (n : Nat) : List Nat := (List.range n).map (mk m)
theorem sizedM_len (m : List Nat) (n : Nat) : (sizedM m n).length = n := by simp [sizedM]
theorem sizedM_snoc (m : List Nat) (n : Nat) : sizedM m (n + 1) = sizedM m n ++ [mk m n] := by simp [sizedM, List.range_succ]
theorem sizedM_self (m : List Nat) : sizedM m m.length = m := by
  apply List.ext_getElem?
  intro i
  by_cases hi : i < m.length
  · rw [sizedM, List.getElem?_map, List.getElem?_range hi, Option.map_some, List.getElem?_eq_getElem hi]
    congr 1
    exact mk_at (List.getElem?_eq_getElem hi)
  · rw [List.getElem?_eq_none (by rw [sizedM_len]; omega), List.getElem?_eq_none (by omega)]
end Go.Proofs.Ytgddenhnpjoabaa

/-
  Numbers as eight bytes, the lowest first, and back; a reader's bytes that are left: plain words. No condition; nothing of the program is named.
-/
namespace Go.Proofs.Ytgddenhnpjoabaa
open Go.RowKit
def le : Nat → Nat → List Nat
  | 0, _ => []
  | k + 1, u => u % 256 :: le k (u / 256)
def un : List Nat → Nat
  | [] => 0
  | b :: l => b + 256 * un l
theorem le_len : ∀ k u, (le k u).length = k
  | 0, _ => rfl
  | k + 1, u => by simp [le, le_len k]
theorem le_lt : ∀ k u b, b ∈ le k u → b < 256
  | 0, _, b, h => by simp [le] at h
  | k + 1, u, b, h => by
    simp only [le, List.mem_cons] at h
    rcases h with rfl | h
    · omega
    · exact le_lt k _ b h
theorem un_le : ∀ k u, u < 256 ^ k → un (le k u) = u
  | 0, u, h => by simp at h; simp [le, un, h]
  | k + 1, u, h => by
    rw [le, un, un_le k (u / 256) (by rw [Nat.pow_succ] at h; omega)]
    omega
theorem un_lt : ∀ l : List Nat, (∀ b ∈ l, b < 256) → un l < 256 ^ l.length
  | [], _ => by simp [un]
  | b :: l, h => by
    have h1 := un_lt l (fun c hc => h c (by simp [hc]))
    have h2 := h b (by simp)
    rw [un, List.length_cons, Nat.pow_succ]
    omega
theorem le_at : ∀ k u i, i < k → (le k u)[i]? = some (u / 256 ^ i % 256)
  | 0, _, i, h => by omega
  | k + 1, u, 0, h => by simp [le]
  | k + 1, u, i + 1, h => by
    rw [le, List.getElem?_cons_succ, le_at k _ i (by omega), Nat.div_div_eq_div_mul, Nat.pow_succ, Nat.mul_comm 256]
theorem un_snoc : ∀ (l : List Nat) (b : Nat), un (l ++ [b]) = un l + 256 ^ l.length * b
  | [], b => by simp [un]
  | a :: l, b => by
    rw [List.cons_append, un, un, un_snoc l b, List.length_cons, Nat.pow_succ, Nat.mul_add, Nat.add_assoc, ← Nat.mul_assoc, Nat.mul_comm 256 (256 ^ l.length)]
theorem le_snoc : ∀ k u, le (k + 1) u = le k u ++ [u / 256 ^ k % 256]
  | 0, u => by simp [le]
  | k + 1, u => by
    rw [le, le_snoc k, le, List.cons_append, Nat.div_div_eq_div_mul, Nat.pow_succ, Nat.mul_comm 256]
/-- a number of 64 bits, without its sign -/
def nat64 (n : Int) : Nat := (n % 18446744073709551616).toNat
theorem nat64_lt (n : Int) : nat64 n < 18446744073709551616 := by unfold nat64; omega
def numB (n : Int) : List Nat := le 8 (nat64 n)
theorem numB_len (n : Int) : (numB n).length = 8 := le_len _ _
theorem numB_lt (n : Int) : ∀ b ∈ numB n, b < 256 := fun b h => le_lt _ _ b h
/-- the number of eight bytes -/
def numOf (l : List Nat) : Int := wrap64 (un l : Int)
theorem wrap_nat64 (n : Int) (h1 : -9223372036854775808 ≤ n) (h2 : n ≤ 9223372036854775807) : wrap64 (nat64 n : Int) = n := by
  unfold nat64 wrap64
  omega
theorem numOf_numB (n : Int) (h1 : -9223372036854775808 ≤ n) (h2 : n ≤ 9223372036854775807) : numOf (numB n) = n := by
  unfold numOf numB
  rw [un_le _ _ (by have := nat64_lt n; simpa using this)]
  exact wrap_nat64 n h1 h2
theorem numOf_range (l : List Nat) : -9223372036854775808 ≤ numOf l ∧ numOf l ≤ 9223372036854775807 := by
  unfold numOf wrap64
  omega

theorem wrap_mod (q : Nat) (h : q < 18446744073709551616) : wrap64 (q : Int) % 18446744073709551616 = (q : Int) := by
  unfold wrap64
  omega
theorem or64 (x y : Nat) (a b : Int) (ha : a % 18446744073709551616 = (x : Int)) (hb : b % 18446744073709551616 = (y : Int)) : bits .or .i64 a b = wrap64 ((x ||| y : Nat) : Int) := by
  have ea : (BitVec.ofInt 64 a).toNat = x := by
    rw [BitVec.toNat_ofInt]
    have : (a % ((2 ^ 64 : Nat) : Int)) = (x : Int) := ha
    rw [this, Int.toNat_natCast]
  have eb : (BitVec.ofInt 64 b).toNat = y := by
    rw [BitVec.toNat_ofInt]
    have : (b % ((2 ^ 64 : Nat) : Int)) = (y : Int) := hb
    rw [this, Int.toNat_natCast]
  show IntKind.i64.wrap ((BitVec.ofInt 64 a ||| BitVec.ofInt 64 b).toNat : Int) = _
  rw [BitVec.toNat_or, ea, eb, IntKind.wrap_i64, wrap64]
theorem or_sum (x y : Nat) (a b : Int) (hxy : x ||| y = x + y) (hlt : x + y < 18446744073709551616) (ha : a % 18446744073709551616 = (x : Int)) (hb : b % 18446744073709551616 = (y : Int)) :
    bits .or .i64 a b % 18446744073709551616 = ((x + y : Nat) : Int) ∧ bits .or .i64 a b = wrap64 ((x + y : Nat) : Int) := by
  have h2 := or64 x y a b ha hb
  rw [hxy] at h2
  exact ⟨by rw [h2]; exact wrap_mod _ hlt, h2⟩
theorem or_step (i x c p : Nat) (a b : Int) (hp : p = 2 ^ i) (hx : x < p) (hc : c < 256) (hi : i ≤ 56) (ha : a % 18446744073709551616 = (x : Int)) (hb : b % 18446744073709551616 = ((c * p : Nat) : Int)) :
    bits .or .i64 a b % 18446744073709551616 = ((x + c * p : Nat) : Int) ∧ bits .or .i64 a b = wrap64 ((x + c * p : Nat) : Int) := by
  have hp56 : p ≤ 72057594037927936 := by rw [hp, show (72057594037927936 : Nat) = 2 ^ 56 by decide]; exact Nat.pow_le_pow_right (by omega) hi
  have hj : c * p ||| x = c * p + x := nat_join i _ _ (by rw [hp]; simp) (by rw [← hp]; exact hx)
  have h2 : c * p ≤ 255 * p := Nat.mul_le_mul_right _ (by omega)
  exact or_sum x (c * p) a b (by rw [Nat.or_comm, hj, Nat.add_comm]) (by omega) ha hb

theorem numOf_eq (l : List Nat) (q : Nat) (h : un l = q) : wrap64 (q : Int) = numOf l := by rw [numOf, h]
theorem byte_mod0 (c : Nat) (h : c < 256) : (c : Int) % 18446744073709551616 = ((c * 1 : Nat) : Int) := by omega
theorem byte_mod1 (c : Nat) (h : c < 256) : ((c : Int) * 256) % 18446744073709551616 = ((c * 256 : Nat) : Int) := by omega
theorem byte_mod2 (c : Nat) (h : c < 256) : ((c : Int) * 65536) % 18446744073709551616 = ((c * 65536 : Nat) : Int) := by omega
theorem byte_mod3 (c : Nat) (h : c < 256) : ((c : Int) * 16777216) % 18446744073709551616 = ((c * 16777216 : Nat) : Int) := by omega
theorem byte_mod4 (c : Nat) (h : c < 256) : ((c : Int) * 4294967296) % 18446744073709551616 = ((c * 4294967296 : Nat) : Int) := by omega
theorem byte_mod5 (c : Nat) (h : c < 256) : ((c : Int) * 1099511627776) % 18446744073709551616 = ((c * 1099511627776 : Nat) : Int) := by omega
theorem byte_mod6 (c : Nat) (h : c < 256) : ((c : Int) * 281474976710656) % 18446744073709551616 = ((c * 281474976710656 : Nat) : Int) := by omega
theorem byte_mod7 (c : Nat) (h : c < 256) : (wrap64 ((c : Int) * 72057594037927936)) % 18446744073709551616 = ((c * 72057594037927936 : Nat) : Int) := by unfold wrap64; omega
theorem byte_lt1 (b0 : Nat) (h0 : b0 < 256) : 0 + b0 * 1 < 256 := by omega
theorem byte_lt2 (b0 b1 : Nat) (h0 : b0 < 256) (h1 : b1 < 256) : 0 + b0 * 1 + b1 * 256 < 65536 := by omega
theorem byte_lt3 (b0 b1 b2 : Nat) (h0 : b0 < 256) (h1 : b1 < 256) (h2 : b2 < 256) : 0 + b0 * 1 + b1 * 256 + b2 * 65536 < 16777216 := by omega
theorem byte_lt4 (b0 b1 b2 b3 : Nat) (h0 : b0 < 256) (h1 : b1 < 256) (h2 : b2 < 256) (h3 : b3 < 256) : 0 + b0 * 1 + b1 * 256 + b2 * 65536 + b3 * 16777216 < 4294967296 := by omega
theorem byte_lt5 (b0 b1 b2 b3 b4 : Nat) (h0 : b0 < 256) (h1 : b1 < 256) (h2 : b2 < 256) (h3 : b3 < 256) (h4 : b4 < 256) : 0 + b0 * 1 + b1 * 256 + b2 * 65536 + b3 * 16777216 + b4 * 4294967296 < 1099511627776 := by omega
theorem byte_lt6 (b0 b1 b2 b3 b4 b5 : Nat) (h0 : b0 < 256) (h1 : b1 < 256) (h2 : b2 < 256) (h3 : b3 < 256) (h4 : b4 < 256) (h5 : b5 < 256) : 0 + b0 * 1 + b1 * 256 + b2 * 65536 + b3 * 16777216 + b4 * 4294967296 + b5 * 1099511627776 < 281474976710656 := by omega
theorem byte_lt7 (b0 b1 b2 b3 b4 b5 b6 : Nat) (h0 : b0 < 256) (h1 : b1 < 256) (h2 : b2 < 256) (h3 : b3 < 256) (h4 : b4 < 256) (h5 : b5 < 256) (h6 : b6 < 256) : 0 + b0 * 1 + b1 * 256 + b2 * 65536 + b3 * 16777216 + b4 * 4294967296 + b5 * 1099511627776 + b6 * 281474976710656 < 72057594037927936 := by omega
theorem un_eight (b0 b1 b2 b3 b4 b5 b6 b7 : Nat) : un [b0, b1, b2, b3, b4, b5, b6, b7] = 0 + b0 * 1 + b1 * 256 + b2 * 65536 + b3 * 16777216 + b4 * 4294967296 + b5 * 1099511627776 + b6 * 281474976710656 + b7 * 72057594037927936 := by simp only [un]; omega
theorem or_eight (b0 b1 b2 b3 b4 b5 b6 b7 : Nat) (h0 : b0 < 256) (h1 : b1 < 256) (h2 : b2 < 256) (h3 : b3 < 256) (h4 : b4 < 256) (h5 : b5 < 256) (h6 : b6 < 256) (h7 : b7 < 256) :
    bits .or .i64 (bits .or .i64 (bits .or .i64 (bits .or .i64 (bits .or .i64 (bits .or .i64 (bits .or .i64 (bits .or .i64 0 (b0 : Int)) ((b1 : Int) * 256)) ((b2 : Int) * 65536)) ((b3 : Int) * 16777216)) ((b4 : Int) * 4294967296)) ((b5 : Int) * 1099511627776)) ((b6 : Int) * 281474976710656)) (wrap64 ((b7 : Int) * 72057594037927936)) = numOf [b0, b1, b2, b3, b4, b5, b6, b7] := by
  have z0 : (0 : Int) % 18446744073709551616 = ((0 : Nat) : Int) := by omega
  have s0 := or_step 0 _ b0 1 _ _ (by decide) (by decide) h0 (by decide) z0 (byte_mod0 b0 h0)
  have s1 := or_step 8 _ b1 256 _ _ (by decide) (byte_lt1 b0 h0) h1 (by decide) s0.1 (byte_mod1 b1 h1)
  have s2 := or_step 16 _ b2 65536 _ _ (by decide) (byte_lt2 b0 b1 h0 h1) h2 (by decide) s1.1 (byte_mod2 b2 h2)
  have s3 := or_step 24 _ b3 16777216 _ _ (by decide) (byte_lt3 b0 b1 b2 h0 h1 h2) h3 (by decide) s2.1 (byte_mod3 b3 h3)
  have s4 := or_step 32 _ b4 4294967296 _ _ (by decide) (byte_lt4 b0 b1 b2 b3 h0 h1 h2 h3) h4 (by decide) s3.1 (byte_mod4 b4 h4)
  have s5 := or_step 40 _ b5 1099511627776 _ _ (by decide) (byte_lt5 b0 b1 b2 b3 b4 h0 h1 h2 h3 h4) h5 (by decide) s4.1 (byte_mod5 b5 h5)
  have s6 := or_step 48 _ b6 281474976710656 _ _ (by decide) (byte_lt6 b0 b1 b2 b3 b4 b5 h0 h1 h2 h3 h4 h5) h6 (by decide) s5.1 (byte_mod6 b6 h6)
  have s7 := or_step 56 _ b7 72057594037927936 _ _ (by decide) (byte_lt7 b0 b1 b2 b3 b4 b5 b6 h0 h1 h2 h3 h4 h5 h6) h7 (by decide) s6.1 (byte_mod7 b7 h7)
  exact s7.2.trans (numOf_eq _ _ (un_eight b0 b1 b2 b3 b4 b5 b6 b7))

/-- a reader: the bytes that it hasn't read; is it bad? -/
structure RD where
  bs : List Nat
  bad : Bool
def RD.spoilt : RD := ⟨[], true⟩
/-- the next n bytes are taken -/
def RD.fits (s : RD) (n : Int) : Bool := !s.bad && decide (0 ≤ n) && decide (n ≤ s.bs.length)
def RD.take (s : RD) (n : Int) : RD := if s.fits n then ⟨s.bs.drop n.toNat, false⟩ else .spoilt
def RD.got (s : RD) (n : Int) : List Nat := if s.fits n then s.bs.take n.toNat else []
def RD.Good (s : RD) : Prop := (s.bad = true → s.bs = []) ∧ ∀ b ∈ s.bs, b < 256
theorem RD.take_good {s : RD} (h : s.Good) (n : Int) : (s.take n).Good := by
  unfold RD.take
  split
  · exact ⟨fun e => (by cases e), fun b hb => h.2 b (List.mem_of_mem_drop hb)⟩
  · exact ⟨fun _ => rfl, fun b hb => by cases hb⟩
theorem RD.spoilt_good : RD.spoilt.Good := ⟨fun _ => rfl, fun b hb => by cases hb⟩
theorem RD.got_lt {s : RD} (h : s.Good) (n : Int) : ∀ b ∈ s.got n, b < 256 := by
  unfold RD.got
  split
  · exact fun b hb => h.2 b (List.mem_of_mem_take hb)
  · exact fun b hb => by cases hb
def RD.byte (s : RD) : Nat := (s.got 1).headD 0
def RD.num (s : RD) : Int := numOf (s.got 8)
def RD.flagTo (s : RD) : RD := if 1 < s.byte then .spoilt else s.take 1
def RD.flag (s : RD) : Bool := s.byte == 1
def RD.bytesTo (s : RD) : RD := (s.take 8).take s.num
def RD.bytes (s : RD) : List Nat := (s.take 8).got s.num
def RD.many (s : RD) : Bool := decide (0 ≤ s.num) && decide (s.num ≤ ((s.take 8).bs.length / 8 : Nat)) && !(s.take 8).bad
/-- k numbers, one behind the other -/
def RD.run : Nat → RD → RD
  | 0, s => s
  | k + 1, s => (RD.run k s).take 8
def RD.rows (s : RD) : Nat → List Int
  | 0 => []
  | k + 1 => RD.rows s k ++ [(RD.run k s).num]
def RD.numsTo (s : RD) : RD := if s.many then RD.run s.num.toNat (s.take 8) else .spoilt
def RD.nums (s : RD) : List Int := if s.many then RD.rows (s.take 8) s.num.toNat else []
theorem RD.run_good {s : RD} (h : s.Good) : ∀ k, (RD.run k s).Good
  | 0 => h
  | k + 1 => RD.take_good (RD.run_good h k) 8
theorem RD.rows_len (s : RD) : ∀ k, (RD.rows s k).length = k
  | 0 => rfl
  | k + 1 => by simp [RD.rows, RD.rows_len s k]
theorem RD.flagTo_good {s : RD} (h : s.Good) : s.flagTo.Good := by
  unfold RD.flagTo
  split
  · exact RD.spoilt_good
  · exact RD.take_good h 1
theorem RD.bytesTo_good {s : RD} (h : s.Good) : s.bytesTo.Good := RD.take_good (RD.take_good h 8) _
theorem RD.numsTo_good {s : RD} (h : s.Good) : s.numsTo.Good := by
  unfold RD.numsTo
  split
  · exact RD.run_good (RD.take_good h 8) _
  · exact RD.spoilt_good
theorem RD.byte_lt {s : RD} (h : s.Good) : s.byte < 256 := by
  unfold RD.byte
  have := RD.got_lt h 1
  cases hg : s.got 1 with
  | nil => simp
  | cons b l => rw [hg] at this; exact this b (by simp)
end Go.Proofs.Ytgddenhnpjoabaa

/-
  An error's number. Conditions: the errors are the document's.
-/
namespace Go.Proofs.Ytgddenhnpjoabaa
open Go.RowKit
/-- an error's value -/
def errV : Nat → Value
  | 0 => .nilIface
  | k => .iface 46 (.int .i64 k)
theorem num_any (k : Nat) (w : World) : Calls Try.prog 49 #[errV k] w fun e w' => e = .returned (.int .i64 k) ∧ w = w' := by
  cases k with
  | zero =>
    simp only [errV]
    go_enter Try.func49, Try.ntmps49
    go_wp2
    go_ret
    exact ⟨rfl, rfl⟩
  | succ k =>
    simp only [errV]
    have hta : ∀ (n : Int) (w : World), (Instr.typeAssert (.iface 46 (.int .i64 n)) 39 46 true).run Try.prog w = .ok (.tuple #[.int .i64 n, .bool true]) w := fun n w => by kernel_rfl
    have hne : (((k : Int) + 1) == 0) = false := by simp; omega
    have hne2 : (((k : Int) + 1) != 0) = true := by simp; omega
    go_enter Try.func49, Try.ntmps49
    go_wp2
    go_ret
    exact ⟨rfl, rfl⟩
theorem is_any (k j : Nat) (w : World) : Calls Try.prog 16 #[errV k, .int .i64 j] w fun e w' => e = .returned (.bool (k == j)) ∧ w = w' := by
  go_enter Try.func16, Try.ntmps16
  go_wp2_with fail
  refine (num_any k w).mono ?_
  rintro e w' ⟨rfl, rfl⟩
  go_wp2
  go_ret
  exact ⟨by show Ending.returned (.bool ((k : Int) == (j : Int))) = _; rw [show ((k : Int) == (j : Int)) = (k == j) from by rw [Bool.eq_iff_iff, beq_iff_eq, beq_iff_eq]; constructor <;> intro h <;> omega], rfl⟩
end Go.Proofs.Ytgddenhnpjoabaa

/-
  Words for objects in memory: what a call turned (Only F: no older block but those of F), where an object's new blocks lie (Fresh), that two objects share none (Apart). A map with numbers for keys. No condition; nothing of the program is named.
-/
namespace Go.Proofs.Ytgddenhnpjoabaa
open Go.RowKit Go.ChangeMaps

/-- of the blocks that were there none but those of F has turned -/
structure Only (F : List Nat) (w w' : World) : Prop where
  os : w'.os = w.os
  tape : w'.tape = w.tape
  output : w'.output = w.output
  size : w.heap.size ≤ w'.heap.size
  block : ∀ k, k < w.heap.size → k ∉ F → w'.heap[k]? = w.heap[k]?
/-- the blocks of F' are F's, or new since w -/
def Fresh (w : World) (F F' : List Nat) : Prop := ∀ k, k ∈ F' → k ∈ F ∨ w.heap.size ≤ k
def Apart (F G : List Nat) : Prop := ∀ k, k ∈ F → k ∉ G
def Under (w : World) (F : List Nat) : Prop := ∀ k, k ∈ F → k < w.heap.size
def Over (B : Nat) (F : List Nat) : Prop := ∀ k, k ∈ F → B ≤ k

section
variable {F F' F'' G : List Nat} {w w' w'' : World}
theorem Only.refl (F : List Nat) (w : World) : Only F w w := ⟨rfl, rfl, rfl, Nat.le_refl _, fun _ _ _ => rfl⟩
theorem Only.trans (h : Only F w w') (k : Only F' w' w'') (hf : Fresh w F F') : Only F w w'' :=
  ⟨k.os.trans h.os, k.tape.trans h.tape, k.output.trans h.output, Nat.le_trans h.size k.size, fun i hi hn =>
    (k.block i (Nat.lt_of_lt_of_le hi h.size) (fun hm => by
      rcases hf i hm with h1 | h1
      · exact hn h1
      · omega)).trans (h.block i hi hn)⟩
theorem Only.mono (h : Only F w w') (hs : ∀ k, k ∈ F → k ∈ G) : Only G w w' := ⟨h.os, h.tape, h.output, h.size, fun i hi hn => h.block i hi (fun hm => hn (hs i hm))⟩
theorem Only.alloc (h : Only F w w') (o : Obj) : Only F w (w'.alloc o) :=
  ⟨h.os, h.tape, h.output, Nat.le_trans h.size (by simp), fun i hi hn => (Below.heap_alloc w' o i (Nat.lt_of_lt_of_le hi h.size)).trans (h.block i hi hn)⟩
theorem Only.drew (h : Only F w w') : Only F w w'.drew := ⟨h.os, h.tape, h.output, h.size, h.block⟩
theorem Only.drewN (h : Only F w w') (n : Nat) : Only F w (w'.drewN n) := ⟨h.os, h.tape, h.output, h.size, h.block⟩
theorem Only.setCell (h : Only F w w') {p : Addr} (hp : p.block ∈ F ∨ w.heap.size ≤ p.block) (u : Value) : Only F w (w'.setCell p u) :=
  ⟨h.os, h.tape, h.output, by simpa [World.setCell] using h.size, fun i hi hn => (Below.heap_setCell w' p u i (by
    rintro rfl
    rcases hp with hp | hp
    · exact hn hp
    · omega)).trans (h.block i hi hn)⟩
theorem Only.grown (h : Only F w w') {row : Option Nat} (hg : w'.grownBy w'' row) (hr : ∀ g, row = some g → g ∈ F ∨ w.heap.size ≤ g) : Only F w w'' :=
  ⟨hg.os.trans h.os, hg.tape.trans h.tape, hg.output.trans h.output, Nat.le_trans h.size hg.size, fun i hi hn => (hg.block i (Nat.lt_of_lt_of_le hi h.size) (fun e => by
    rcases hr i e.symm with h1 | h1
    · exact hn h1
    · omega)).trans (h.block i hi hn)⟩
theorem Only.of_below (h : Below w.heap.size w w') (F : List Nat) : Only F w w' := ⟨h.os, h.tape, h.output, h.size, fun i hi _ => h.block i hi⟩
theorem Only.below (h : Only F w w') {B : Nat} (hB : Over B F) (hs : B ≤ w.heap.size) : Below B w w' :=
  ⟨h.os, h.tape, h.output, h.size, fun i hi => h.block i (by omega) (fun hm => by have := hB i hm; omega)⟩
theorem Only.nil (h : Only [] w w') : Below w.heap.size w w' := h.below (fun _ hk => by cases hk) (Nat.le_refl _)
theorem Only.cell (h : Only F w w') {p : Addr} (hp : p.block < w.heap.size) (hn : p.block ∉ F) : w'.cell? p = w.cell? p := World.cell?_of_block (w := w) (h.block p.block hp hn)
theorem Fresh.refl (w : World) (F : List Nat) : Fresh w F F := fun _ h => .inl h
theorem Fresh.trans (h : Fresh w F F') (k : Fresh w' F' F'') (hs : w.heap.size ≤ w'.heap.size) : Fresh w F F'' := fun i hi => by
  rcases k i hi with h1 | h1
  · exact h i h1
  · exact .inr (by omega)
theorem Fresh.over (h : Fresh w F F') {B : Nat} (hB : Over B F) (hs : B ≤ w.heap.size) : Over B F' := fun k hk => by
  rcases h k hk with h1 | h1
  · exact hB k h1
  · omega
theorem Apart.fresh (h : Apart F G) (hf : Fresh w F F') (hu : Under w G) : Apart F' G := fun k hk hg => by
  rcases hf k hk with h1 | h1
  · exact h k h1 hg
  · have := hu k hg; omega
theorem Apart.symm (h : Apart F G) : Apart G F := fun k hk hg => h k hg hk
theorem Apart.freshR (h : Apart F G) {G' : List Nat} (hf : Fresh w G G') (hu : Under w F) : Apart F G' := (h.symm.fresh hf hu).symm
theorem Under.more (h : Under w F) (hs : w.heap.size ≤ w'.heap.size) : Under w' F := fun k hk => Nat.lt_of_lt_of_le (h k hk) hs
theorem Only.keeps (h : Only F w w') (ha : Apart F G) (hu : Under w G) : ∀ k, k ∈ G → w'.heap[k]? = w.heap[k]? := fun k hk => h.block k (hu k hk) (fun hm => ha k hm hk)
theorem below_drew' {B : Nat} (h : Below B w.drew w') : Below B w w' := ⟨h.os, h.tape, h.output, h.size, h.block⟩
theorem below_keeps (h : Below w.heap.size w w') (hu : Under w G) : ∀ k, k ∈ G → w'.heap[k]? = w.heap[k]? := fun k hk => h.block k (hu k hk)

theorem Blk.of {g : Nat} {t : TypeId} {cs : Array Value} (h : Blk w g t cs) (e : w'.heap[g]? = w.heap[g]?) : Blk w' g t cs := e.trans h
/-- the block in which a slice lies -/
def rowOf (v : Value) : List Nat := v.ownBlock.toList
theorem mem_rowOf {v : Value} {k : Nat} : k ∈ rowOf v ↔ v.ownBlock = some k := by simp [rowOf]
theorem row_of {base : Nat} {e : TypeId} {size n : Nat} {v : Value} {xs : List Value} (h : w.ownsRow base e size v n xs) (hk : ∀ k, k ∈ rowOf v → w'.heap[k]? = w.heap[k]?) : w'.ownsRow base e size v n xs := by
  refine ⟨h.1, ?_⟩
  rcases h.2 with h2 | ⟨g, cap, cur, hv, hg, hh, r⟩
  · exact .inl h2
  · exact .inr ⟨g, cap, cur, hv, hg, by rw [hk g (by subst hv; simp [rowOf, Value.ownBlock])]; exact hh, r⟩
theorem row_weaken {base base' : Nat} {e : TypeId} {size n : Nat} {v : Value} {xs : List Value} (h : w.ownsRow base e size v n xs) (hb : base' ≤ base) : w.ownsRow base' e size v n xs := by
  refine ⟨h.1, ?_⟩
  rcases h.2 with h | ⟨g, cap, cur, e, hg, r⟩
  · exact .inl h
  · exact .inr ⟨g, cap, cur, e, Nat.le_trans hb hg, r⟩
theorem row_under {base : Nat} {e : TypeId} {size n : Nat} {v : Value} {xs : List Value} (h : w.ownsRow base e size v n xs) : Under w (rowOf v) := fun k hk => (World.ownsRow.lt h k (mem_rowOf.1 hk)).2
theorem row_over {base : Nat} {e : TypeId} {size n : Nat} {v : Value} {xs : List Value} (h : w.ownsRow base e size v n xs) : Over base (rowOf v) := fun k hk => (World.ownsRow.lt h k (mem_rowOf.1 hk)).1
end

/-! ### a store of many cells -/
theorem setCells_grown (g : Nat) : ∀ (vs : List Value) (o : Nat) (w : World), w.grownBy (w.setCells g o vs) (some g) ∧ (w.setCells g o vs).heap.size = w.heap.size
  | [], _, w => ⟨World.grownBy.refl w _, rfl⟩
  | v :: vs, o, w => by
    obtain ⟨h1, h2⟩ := setCells_grown g vs (o + 1) (w.setCell ⟨g, o, none⟩ v)
    rw [World.setCells]
    have h0 : w.grownBy (w.setCell ⟨g, o, none⟩ v) (some g) := ⟨rfl, rfl, rfl, by simp [World.setCell], fun k _ hn => Below.heap_setCell w ⟨g, o, none⟩ v k (fun e => hn (by rw [e]))⟩
    exact ⟨h0.trans h1, by rw [h2]; simp [World.setCell]⟩
theorem Blk.setCells_ {g : Nat} {t : TypeId} : ∀ (vs : List Value) (o : Nat) {w : World} {cs : Array Value}, Blk w g t cs → ∃ cs', Blk (w.setCells g o vs) g t cs' ∧ cs'.size = cs.size
  | [], _, _, cs, h => ⟨cs, h, rfl⟩
  | v :: vs, o, w, cs, h => by
    obtain ⟨cs', h1, h2⟩ := Blk.setCells_ vs (o + 1) (h.set_ o v)
    exact ⟨cs', h1, by simpa using h2⟩
/-- the whole block is written over -/
theorem Blk.over {g : Nat} {t : TypeId} {w : World} {cs : Array Value} (h : Blk w g t cs) (vs : List Value) (hl : vs.length = cs.size) : Blk (w.setCells g 0 vs) g t vs.toArray := by
  obtain ⟨cs', h1, h2⟩ := Blk.setCells_ vs 0 h
  have : cs' = vs.toArray := by
    apply Array.ext_getElem?
    intro k
    rw [← h1.cell k]
    by_cases hk : k < vs.length
    · have := World.cell?_setCells_in g vs 0 w (fun j hj => by rw [Nat.zero_add, h.cell]; simp; omega) k hk
      rw [Nat.zero_add] at this
      rw [this]
      simp [hk]
    · rw [h1.cell, Array.getElem?_eq_none (by omega)]
      simp
      omega
  rw [← this]
  exact h1
theorem Blk.there {g : Nat} {t : TypeId} {w : World} {cs : Array Value} (h : Blk w g t cs) {o n : Nat} (hn : o + n ≤ cs.size) : w.there g o n := fun j hj => ⟨by rw [h.cell]; simp; omega, h.frozen _⟩
theorem Blk.range {g : Nat} {t : TypeId} {w : World} {cs : List Value} (h : Blk w g t cs.toArray) : w.rangeAt g 0 cs := fun j u hj => by rw [Nat.zero_add, h.cell]; simpa using hj

/-! ### a row of elements of several cells -/
theorem flat_at {α : Type} (f : α → List Value) (size : Nat) (hf : ∀ x, (f x).length = size) : ∀ (l : List α) (k j : Nat) (x : α), l[k]? = some x → j < size → (l.flatMap f)[k * size + j]? = (f x)[j]?
  | [], _, _, _, h, _ => by simp at h
  | y :: l, 0, j, x, h, hj => by
    simp at h
    subst h
    rw [List.flatMap_cons, Nat.zero_mul, Nat.zero_add, List.getElem?_append_left (by rw [hf]; exact hj)]
  | y :: l, k + 1, j, x, h, hj => by
    rw [List.flatMap_cons, List.getElem?_append_right (by rw [hf, Nat.add_mul]; omega), hf, show (k + 1) * size + j - size = k * size + j by rw [Nat.add_mul]; omega]
    exact flat_at f size hf l k j x (by simpa using h) hj
theorem row_at {α : Type} {f : α → List Value} {size : Nat} (hf : ∀ x, (f x).length = size) {w : World} {base : Nat} {e : TypeId} {A : Option Addr} {n cap : Nat} {l : List α} (h : w.ownsRow base e size (.slice A n cap) n (l.flatMap f)) (hl : l.length = n) {k : Nat} (hk : k < n) :
    ∃ gw x, A = some ⟨gw, 0, none⟩ ∧ n ≤ cap ∧ l[k]? = some x ∧ w.rangeAt gw (k * size) (f x) ∧ base ≤ gw ∧ gw < w.heap.size := by
  rcases h.2 with ⟨hv, _⟩ | ⟨gw, cap', cur, hv, hbg, hg, hnc, _⟩
  · injection hv; omega
  · injection hv with h1 h2 h3
    subst h1 h3
    have hx : l[k]? = some (l[k]'(by omega)) := List.getElem?_eq_getElem (by omega)
    refine ⟨gw, _, rfl, hnc, hx, fun j u hj => ?_, hbg, (Array.getElem?_eq_some_iff.1 hg).1⟩
    have hjs : j < size := by
      rw [← hf (l[k]'(by omega))]
      exact (List.getElem?_eq_some_iff.1 hj).1
    have hlt : k * size + j < n * size := by
      have : (k + 1) * size ≤ n * size := Nat.mul_le_mul_right _ hk
      rw [Nat.add_mul] at this
      omega
    rw [World.ownsRow.cellAt h _ hlt, flat_at f size hf l k j _ hx hjs]
    exact hj

theorem reads_only {w w' : World} {F : List Nat} {B size n : Nat} {A : Option Addr} {xs : List Value} (h : Reads w B size A n xs) (ho : Only F w w') (ha : ∀ ad, A = some ad → ad.block < w.heap.size ∧ ad.block ∉ F) : Reads w' B size A n xs :=
  ⟨h.1, fun hn => by
    obtain ⟨ad, e, hb, hc⟩ := h.2 hn
    obtain ⟨h1, h2⟩ := ha ad e
    exact ⟨ad, e, hb, fun j u hu => (ho.cell (by rw [block_of_add]; exact h1) (by rw [block_of_add]; exact h2)).trans (hc j u hu)⟩⟩

/-! ### a cell that may be written and a range, kept through a region that draws its order -/
theorem ws_alloc {w1 : World} {a : Addr} {b o : Nat} {cs : List Value} (hlt : a.block < w1.heap.size) (h2 : w1.frozen? a = false) (h3 : w1.rangeAt b o cs) (ob : Obj) :
    (w1.alloc ob).drew.frozen? a = false ∧ (w1.alloc ob).drew.rangeAt b o cs :=
  ⟨(World.frozen?_of_block (w := w1) (Below.heap_alloc w1 ob _ hlt)).trans h2, World.rangeAt_alloc h3 ob⟩
theorem ws_grown {w1 w2 : World} {a : Addr} {b o : Nat} {cs : List Value} (hlt : a.block < w1.heap.size) (h2 : w1.frozen? a = false) (h3 : w1.rangeAt b o cs) {row : Option Nat} (hg : w1.grownBy w2 row) (ha : row ≠ some a.block) (hb : row ≠ some b) (hlb : b < w1.heap.size) :
    w2.frozen? a = false ∧ w2.rangeAt b o cs :=
  ⟨(hg.frozen_far a hlt (Ne.symm ha)).trans h2, fun j u hj => (hg.cell_far _ hlb (Ne.symm hb)).trans (h3 j u hj)⟩
theorem ws_set {w1 : World} {a : Addr} {b o : Nat} {cs : List Value} (h2 : w1.frozen? a = false) (h3 : w1.rangeAt b o cs) (p : Addr) (u : Value) (hb : b ≠ p.block) :
    (w1.setCell p u).frozen? a = false ∧ (w1.setCell p u).rangeAt b o cs :=
  ⟨by rw [World.frozen?_setCell]; exact h2, fun j x hj => (World.cell?_setCell_other _ _ _ _ (fun e => hb (by subst e; rfl))).trans (h3 j x hj)⟩

/-! ### a map whose keys are numbers -/
def keyed (es : List MapEntry) : Prop := ∀ e ∈ es, ∃ z, e.key = .int .i64 z
def keyIs (k : Int) : Value → Bool
  | .int .i64 z => k == z
  | _ => false
def find (k : Int) : List MapEntry → Option Value
  | [] => none
  | e :: es => if keyIs k e.key then some e.val else find k es
/-- block g is a map that holds f: what isn't in it is none -/
def MapAt (w : World) (g : Nat) (f : Int → Option Value) : Prop := ∃ es clock, w.heap[g]? = some (.map es clock) ∧ keyed es.toList ∧ ∀ k, find k es.toList = f k

section
variable {P : Program} {w w' : World} {g : Nat} {f : Int → Option Value}
theorem MapAt.of (h : MapAt w g f) (e : w'.heap[g]? = w.heap[g]?) : MapAt w' g f := by
  obtain ⟨es, c, h1, h2⟩ := h
  exact ⟨es, c, e.trans h1, h2⟩
theorem MapAt.lt (h : MapAt w g f) : g < w.heap.size := by
  obtain ⟨es, c, h1, _⟩ := h
  exact (Array.getElem?_eq_some_iff.1 h1).1
theorem MapAt.new (w : World) : MapAt (w.alloc (.map #[] 0)) w.heap.size (fun _ => none) :=
  ⟨#[], 0, heap_alloc_new w _, by simp [keyed], by simp [find]⟩
theorem MapAt.ne_blk {t : TypeId} {cs : Array Value} {g' : Nat} (h : MapAt w g f) (hb : Blk w g' t cs) : g ≠ g' := by
  rintro rfl
  obtain ⟨es, c, h1, _⟩ := h
  unfold Blk at hb
  rw [hb] at h1
  cases h1
theorem MapAt.ne_row {base : Nat} {e : TypeId} {size n : Nat} {v : Value} {xs : List Value} (h : MapAt w g f) (hr : w.ownsRow base e size v n xs) : v.ownBlock ≠ some g := by
  intro he
  obtain ⟨es, c, h1, _⟩ := h
  rcases hr.2 with ⟨rfl, _⟩ | ⟨g', cap, cur, rfl, _, hh, _⟩
  · simp [Value.ownBlock] at he
  · have : g' = g := by simpa [Value.ownBlock] using he
    subst this
    rw [hh] at h1
    cases h1

theorem findNow_eq (k : Int) : ∀ (es : List MapEntry) (i : Nat), keyed es →
    ∃ r, Instr.findNow (.int .i64) (.int .i64 k) es i = some r ∧ (r.map (·.2)) = find k es ∧
      (r = none → ∀ e ∈ es, keyIs k e.key = false) ∧
      ∀ j v, r = some (j, v) → i ≤ j ∧ ∃ e, es[j - i]? = some e ∧ e.key = .int .i64 k ∧ e.val = v ∧ ∀ j', j' < j - i → ∀ e', es[j']? = some e' → keyIs k e'.key = false
  | [], i, _ => ⟨none, rfl, rfl, fun _ _ h => (by cases h), fun _ _ h => by cases h⟩
  | e :: es, i, h => by
    obtain ⟨z, hz⟩ := h e (by simp)
    by_cases hk : k = z
    · subst hk
      refine ⟨some (i, e.val), by simp [Instr.findNow, Instr.sameNow, hz], by simp [find, keyIs, hz], fun h => (by cases h), ?_⟩
      intro j v hjv
      cases hjv
      exact ⟨Nat.le_refl _, e, by simp, hz, rfl, fun j' hj' => by omega⟩
    · obtain ⟨r, h1, h2, h4, h3⟩ := findNow_eq k es (i + 1) (fun e' he' => h e' (by simp [he']))
      have hb : (k == z) = false := by simpa using hk
      refine ⟨r, ?_, ?_, ?_, ?_⟩
      · simp only [Instr.findNow, Instr.sameNow, hz, if_true, hb, h1]
      · rw [h2]; simp [find, keyIs, hz, hb]
      · intro hr e' he'
        rcases List.mem_cons.1 he' with rfl | he'
        · simp [keyIs, hz, hb]
        · exact h4 hr e' he'
      · intro j v hjv
        obtain ⟨hle, e', he', hk', hv', hno⟩ := h3 j v hjv
        refine ⟨by omega, e', ?_, hk', hv', ?_⟩
        · rw [show j - i = (j - (i + 1)) + 1 by omega]; simpa using he'
        · intro j' hj' e'' he''
          cases j' with
          | zero => simp at he''; subst he''; simp [keyIs, hz, hb]
          | succ j' => exact hno j' (by omega) e'' (by simpa using he'')

theorem check_int (w : World) {kt : TypeId} (hk : P.underlying kt = some (.int .i64)) (k : Int) (b : Bool) : (Instr.checkKey b 10000 kt (.int .i64 k)).run P w = .ok () w := by
  unfold Instr.checkKey
  simp [run_underlying hk]
theorem stays_int (w : World) (k : Int) : (Instr.keyThatStays (.int .i64 k) (.int .i64 k)).run P w = .ok (.int .i64 k) w := by
  unfold Instr.keyThatStays Instr.sameBits
  simp
theorem run_lookup_map {t kt et : TypeId} {z : Value} (ht : P.underlying t = some (.map kt et)) (hk : P.underlying kt = some (.int .i64)) (hz : ∀ w, (zeroValue et).run P w = .ok z w) (h : MapAt w g f) (k : Int) :
    (Instr.lookup t (.map (some g)) (.int .i64 k) false).run P w = .ok ((f k).getD z) w := by
  obtain ⟨es, c, h1, h2, h3⟩ := h
  obtain ⟨r, hr, hf, _⟩ := findNow_eq k es.toList 0 h2
  have hck := fun b => check_int (P := P) w hk k b
  rw [h3 k] at hf
  cases hr' : r with
  | none =>
    subst hr'
    have : f k = none := by simpa using hf.symm
    simp [Instr.lookup, run_underlying ht, MapKept.run_getObj_map h1, hck, Instr.findKey, run_underlying hk, hr, this, Result.andThen]
    exact hz w
  | some p =>
    subst hr'
    have : f k = some p.2 := by simpa using hf.symm
    simp [Instr.lookup, run_underlying ht, MapKept.run_getObj_map h1, hck, Instr.findKey, run_underlying hk, hr, this, Result.andThen]

theorem find_push (k : Int) (v : Value) (c : Nat) (k' : Int) : ∀ es : List MapEntry, (∀ e ∈ es, keyIs k e.key = false) →
    find k' (es ++ [{ key := .int .i64 k, val := v, born := c }]) = if k' = k then some v else find k' es
  | [], _ => by by_cases h : k' = k <;> simp [find, keyIs, h]
  | e :: es, h => by
    have ih := find_push k v c k' es (fun e' he' => h e' (by simp [he']))
    by_cases hk : k' = k
    · subst hk
      simp only [List.cons_append, find, h e (by simp), Bool.false_eq_true, if_false, ih, if_true]
    · simp only [List.cons_append, find, ih, hk, if_false]
theorem find_modify (k : Int) (v : Value) (k' : Int) : ∀ (es : List MapEntry) (i : Nat), (∃ e, es[i]? = some e ∧ e.key = .int .i64 k) → (∀ j', j' < i → ∀ e', es[j']? = some e' → keyIs k e'.key = false) →
    find k' (es.modify i fun e => { e with key := .int .i64 k, val := v }) = if k' = k then some v else find k' es
  | [], _, h, _ => by obtain ⟨e, h, _⟩ := h; simp at h
  | e :: es, 0, h, _ => by
    obtain ⟨e', h, hk⟩ := h
    simp at h
    subst h
    by_cases hkk : k' = k
    · simp [find, keyIs, hkk]
    · have hb : (k' == k) = false := by simpa using hkk
      simp [find, keyIs, hkk, hk, hb]
  | e :: es, i + 1, h, hno => by
    have ih := find_modify k v k' es i (by simpa using h) (fun j' hj e' he' => hno (j' + 1) (by omega) e' (by simpa using he'))
    have h0 := hno 0 (by omega) e (by simp)
    by_cases hk : k' = k
    · subst hk
      simp only [List.modify_succ_cons, find, h0, Bool.false_eq_true, if_false, ih, if_true]
    · simp only [List.modify_succ_cons, find, ih, hk, if_false]
theorem keyed_modify {es : List MapEntry} (h : keyed es) (i : Nat) (k : Int) (v : Value) : keyed (es.modify i fun e => { e with key := .int .i64 k, val := v }) := by
  intro e he
  obtain ⟨j, hj, rfl⟩ := List.mem_iff_getElem.1 he
  simp only [List.getElem_modify]
  split
  · exact ⟨k, rfl⟩
  · exact h _ (List.getElem_mem _)

/-- the world behind a store into a map -/
theorem run_mapUpdate_map {t kt et : TypeId} (ht : P.underlying t = some (.map kt et)) (hk : P.underlying kt = some (.int .i64)) (h : MapAt w g f) (k : Int) (v : Value) :
    ∃ w', (Instr.mapUpdate t (.map (some g)) (.int .i64 k) v).run P w = .ok () w' ∧ MapAt w' g (fun k' => if k' = k then some v else f k') ∧ w.grownBy w' (some g) ∧ w'.heap.size = w.heap.size := by
  obtain ⟨es, c, h1, h2, h3⟩ := h
  obtain ⟨r, hr, hf, hn, hs⟩ := findNow_eq k es.toList 0 h2
  have hck := fun b => check_int (P := P) w hk k b
  cases hr' : r with
  | none =>
    subst hr'
    refine ⟨setBlock w g (.map (es.push { key := .int .i64 k, val := v, born := c }) (c + 1)), by
      simp [Instr.mapUpdate, run_underlying ht, MapKept.run_getObj_map h1, hck, Instr.findKey, run_underlying hk, hr, MapKept.run_setObj_map _ h1, Result.andThen, setBlock], ?_, ?_, by simp [setBlock]⟩
    · refine ⟨_, _, heap_setBlock_same h1 _, ?_, ?_⟩
      · intro e he
        simp only [Array.toList_push, List.mem_append, List.mem_singleton] at he
        rcases he with he | rfl
        · exact h2 e he
        · exact ⟨k, rfl⟩
      · intro k'
        rw [Array.toList_push, find_push k v c k' es.toList (hn rfl), h3]
    · exact ⟨rfl, rfl, rfl, by simp [setBlock], fun i _ hi => heap_setBlock_other h1 _ (fun e => hi (by rw [e]))⟩
  | some p =>
    subst hr'
    obtain ⟨i, u⟩ := p
    obtain ⟨_, e, he, hek, hev, hno⟩ := hs i u rfl
    simp only [Nat.sub_zero, Array.getElem?_toList] at he hno
    refine ⟨setBlock w g (.map (es.modify i fun e => { e with key := .int .i64 k, val := v }) c), by
      simp [Instr.mapUpdate, run_underlying ht, MapKept.run_getObj_map h1, hck, Instr.findKey, run_underlying hk, hr, he, hek, stays_int, MapKept.run_setObj_map _ h1, Result.andThen, setBlock], ?_, ?_, by simp [setBlock]⟩
    · refine ⟨_, _, heap_setBlock_same h1 _, ?_, ?_⟩
      · rw [Array.toList_modify]; exact keyed_modify h2 _ _ _
      · intro k'
        rw [Array.toList_modify, find_modify k v k' es.toList i ⟨e, by simpa using he, hek⟩ (fun j' hj e' he' => hno j' hj e' (by simpa using he')), h3]
    · exact ⟨rfl, rfl, rfl, by simp [setBlock], fun i _ hi => heap_setBlock_other h1 _ (fun e => hi (by rw [e]))⟩
/-- a look-up at the operation -/
theorem wpList_lookup_map {ops : Array Oper} {rest : List Oper} {o : Oper} {a : Act} {Q : Exit → Act → World → Prop} (hg : o.guard = none) (t : TypeId) (m x : Operand) (hop : o.op = Op.lookup t m x false)
    (k : Int) (v : Value) (hm : a.eval m = .map (some g)) (hx : a.eval x = .int .i64 k) (hr : (Instr.lookup t (.map (some g)) (.int .i64 k) false).run P w = .ok v w)
    (h : wpList P ops Q rest (a.put o.dst v) w) : wpList P ops Q (o :: rest) a w := by
  refine wpList_plain hg fun K' hK' => ?_
  unfold Oper.wp
  simp [execOp, hop, hm, hx, hr, Result.andThen]
  exact hK' _ _ h
end
end Go.Proofs.Ytgddenhnpjoabaa

/-
  Bytes that a call collects in a slice of its own: make, append, over this program's numbers. No condition but the sizes.
-/
namespace Go.Proofs.Ytgddenhnpjoabaa
open Go.RowKit
theorem byte_info : (Try.prog.info? 5).map (fun i => (i.zero, i.size, i.bytes)) = some (some (.int .u8 0), 1, 1) := by kernel_rfl

/-- the slice value v, of n bytes, is the call's own: it is nil, or starts a block from base on, whose first cells are the bytes bs -/
def Own (w : World) (base : Nat) (v : Value) (n : Nat) (bs : List Nat) : Prop := w.ownsRow base 5 1 v n (u8s bs)

theorem Own.nil (w : World) (base : Nat) : Own w base (.slice none 0 0) 0 [] := World.ownsRow_nil w base _ 1
theorem Own.new (w : World) (base : Nat) (hb : base ≤ w.heap.size) : Own (w.alloc (.cells #[] 5)) base (.slice (some ⟨w.heap.size, 0, none⟩) 0 0) 0 [] := by
  have := World.ownsRow_made (base := base) (e := 5) (size := 1) w #[] 0 hb (by simp [maxLen]) (by simp)
  simpa [Own, u8s] using this
theorem Own.len {w : World} {base : Nat} {v : Value} {n : Nat} {bs : List Nat} (h : Own w base v n bs) : bs.length = n := by
  have := h.1
  rw [u8s_length] at this
  omega
theorem Own.form {w : World} {base : Nat} {v : Value} {n : Nat} {bs : List Nat} (h : Own w base v n bs) :
    ∃ (A : Option Addr) (cap : Nat), v = .slice A n cap ∧ n ≤ cap ∧ cap ≤ maxLen ∧ (A = none ∧ n = 0 ∧ cap = 0 ∨ ∃ g, A = some ⟨g, 0, none⟩ ∧ base ≤ g ∧ g < w.heap.size) := by
  rcases h.2 with ⟨rfl, hx⟩ | ⟨g, cap, cur, rfl, hbg, hg, hnc, hcm, hcs, hpre⟩
  · have : n = 0 := by have := h.1; rw [hx] at this; simp at this; omega
    subst this
    exact ⟨none, 0, rfl, by omega, by simp [maxLen], .inl ⟨rfl, rfl, rfl⟩⟩
  · have hlt : g < w.heap.size := by
      rcases Nat.lt_or_ge g w.heap.size with h1 | h1
      · exact h1
      · rw [Array.getElem?_eq_none h1] at hg; cases hg
    exact ⟨some ⟨g, 0, none⟩, cap, rfl, hnc, hcm, .inr ⟨g, rfl, hbg, hlt⟩⟩
theorem Own.bytes {w : World} {base : Nat} {A : Option Addr} {n c : Nat} {bs : List Nat} (h : Own w base (.slice A n c) n bs) (hb : ∀ b ∈ bs, b < 256) : Bytes w w.heap.size A n bs :=
  ⟨Reads.of_own h, hb⟩
theorem Own.alloc {w : World} {base : Nat} {v : Value} {n : Nat} {bs : List Nat} (h : Own w base v n bs) (o : Obj) : Own (w.alloc o) base v n bs := World.ownsRow.alloc h o
theorem Own.drew {w : World} {base : Nat} {v : Value} {n : Nat} {bs : List Nat} (h : Own w base v n bs) : Own w.drew base v n bs := h
theorem Own.drewN {w : World} {base : Nat} {v : Value} {n : Nat} {bs : List Nat} (h : Own w base v n bs) (k : Nat) : Own (w.drewN k) base v n bs := h
theorem Own.below {w w' : World} {base : Nat} {v : Value} {n : Nat} {bs : List Nat} (h : Own w base v n bs) (hb : Below w.heap.size w w') : Own w' base v n bs :=
  World.ownsRow.kept (row := none) h ⟨hb.os, hb.tape, hb.output, hb.size, fun i hi _ => hb.block i hi⟩ (by cases v.ownBlock <;> simp)

theorem Own.weaken {w : World} {base base' : Nat} {v : Value} {n : Nat} {bs : List Nat} (h : Own w base v n bs) (hb : base' ≤ base) : Own w base' v n bs := by
  refine ⟨h.1, ?_⟩
  rcases h.2 with h | ⟨g, cap, cur, e, hg, r⟩
  · exact .inl h
  · exact .inr ⟨g, cap, cur, e, Nat.le_trans hb hg, r⟩
theorem Own.grown {w w' : World} {base : Nat} {v : Value} {n : Nat} {bs : List Nat} {row : Option Nat} (h : Own w base v n bs) (hg : w.grownBy w' row) (hne : v.ownBlock = none ∨ v.ownBlock ≠ row) : Own w' base v n bs :=
  World.ownsRow.kept h hg hne

theorem Own.stored {w : World} {base g n cap : Nat} {bs : List Nat} (h : Own w base (.slice (some ⟨g, 0, none⟩) n cap) n bs) (j b : Nat) :
    Own (w.setCell ⟨g, j, none⟩ (.int .u8 (b : Int))) base (.slice (some ⟨g, 0, none⟩) n cap) n (bs.set j b) := by
  have := (World.ownsRow.stored h j (.int .u8 (b : Int))).1
  unfold Own
  rwa [u8s, List.map_set]
theorem Own.cell {w : World} {base g n cap : Nat} {bs : List Nat} (h : Own w base (.slice (some ⟨g, 0, none⟩) n cap) n bs) {j b : Nat} (hj : bs[j]? = some b) : w.cell? ⟨g, j, none⟩ = some (.int .u8 (b : Int)) := by
  have hl : j < bs.length := by
    rcases Nat.lt_or_ge j bs.length with h1 | h1
    · exact h1
    · rw [List.getElem?_eq_none h1] at hj; cases hj
  rw [World.ownsRow.cellAt h j (by have := h.len; omega)]
  simp [u8s, u8, hj]
theorem Own.frozen {w : World} {base g n cap : Nat} {bs : List Nat} (h : Own w base (.slice (some ⟨g, 0, none⟩) n cap) n bs) (j : Nat) : w.frozen? ⟨g, j, none⟩ = false := World.ownsRow.frozenAt h j

/-- append of bytes that lie somewhere onto bytes of the call's own -/
theorem app_bytes {w : World} {ops : Array Oper} {rest : List Oper} {o : Oper} {a : Act} {Q : Exit → Act → World → Prop} (s x : Operand)
    (hgd : o.guard = none) (ho : o.op = .call { callee := .builtin .append, args := #[s, x], argTypes := #[23, 23] })
    (base : Nat) (v : Value) (n : Nat) (bs : List Nat) (hs : a.eval s = v) (hown : Own w base v n bs)
    (B : Nat) (A : Option Addr) (m c : Nat) (news : List Nat) (hx : a.eval x = .slice A m c) (hr : Bytes w B A m news)
    (hsz : n + m ≤ 100000000000000) (hbase : base ≤ w.heap.size)
    (h : ∀ v' w', Own w' base v' (n + m) (bs ++ news) → w.grownBy w' v.ownBlock → (v'.ownBlock = v.ownBlock ∨ v'.ownBlock = some w.heap.size) → wpList Try.prog ops Q rest (a.put o.dst v') w') :
    wpList Try.prog ops Q (o :: rest) a w := by
  obtain ⟨i0, hi0, hz0, hz1, hz2⟩ := info_parts byte_info
  refine wpList_append_any w hgd s x _ ho base 5 i0 _ 1 1 Try.underlying23 hi0 hz0 hz1 hz2 rfl (by omega) v n (u8s bs) hs hown B A m c (u8s news) hx hr.1 (oneCell_u8s _)
    (by simp only [maxLen]; omega) (by omega) hbase ?_
  intro v' w' h1 h2 h3
  exact h v' w' (by unfold Own; rw [u8s, List.map_append]; exact h1) h2 h3

/-- the same at a step of a region that draws its order -/
theorem step_app_bytes {w : World} {ops : Array Oper} {o : Oper} {a : Act} {K : Act → World → Prop} {Q : Exit → Act → World → Prop} {E : Prop} (s x : Operand)
    (hgd : o.guard = none) (ho : o.op = .call { callee := .builtin .append, args := #[s, x], argTypes := #[23, 23] })
    (base : Nat) (v : Value) (n : Nat) (bs : List Nat) (hs : a.eval s = v) (hown : Own w base v n bs)
    (B : Nat) (A : Option Addr) (m c : Nat) (news : List Nat) (hx : a.eval x = .slice A m c) (hr : Bytes w B A m news)
    (hsz : n + m ≤ 100000000000000) (hbase : base ≤ w.heap.size)
    (h : ∀ v' w', Own w' base v' (n + m) (bs ++ news) → w.grownBy w' v.ownBlock → (v'.ownBlock = v.ownBlock ∨ v'.ownBlock = some w.heap.size) → K (a.put o.dst v') w') :
    if Region.wanted o (yielded ops a.tmps) = true then Oper.wp Try.prog o a w K Q else E := by
  obtain ⟨i0, hi0, hz0, hz1, hz2⟩ := info_parts byte_info
  refine step_append_any w hgd s x _ ho base 5 i0 _ 1 1 Try.underlying23 hi0 hz0 hz1 hz2 rfl (by omega) v n (u8s bs) hs hown B A m c (u8s news) hx hr.1 (oneCell_u8s _)
    (by simp only [maxLen]; omega) (by omega) hbase ?_
  intro v' w' h1 h2 h3
  exact h v' w' (by unfold Own; rw [u8s, List.map_append]; exact h1) h2 h3
theorem Own.apart {w : World} {base : Nat} {v : Value} {n : Nat} {bs : List Nat} (h : Own w base v n bs) {i : Nat} (hi : i < base) : some i ≠ v.ownBlock := by
  intro e
  have := (World.ownsRow.lt h i e.symm).1
  omega

/-- make([]byte, 0, n) -/
theorem make_bytes {w : World} {ops : Array Oper} {rest : List Oper} {o : Oper} {a : Act} {Q : Exit → Act → World → Prop} (l c : Operand)
    (hg : o.guard = none) (hop : o.op = Op.makeSlice 23 l c) (base : Nat) (kl kc : IntKind) (C : Int) (n : Nat) (hl : a.eval l = .int kl 0) (hc : a.eval c = .int kc C)
    (hC : C = (n : Int)) (hn : n ≤ 100000000000000) (hbase : base ≤ w.heap.size)
    (hK : ∀ w', Own w' base (.slice (some ⟨w.heap.size, 0, none⟩) 0 n) 0 [] → w.grownBy w' none → wpList Try.prog ops Q rest (a.put o.dst (.slice (some ⟨w.heap.size, 0, none⟩) 0 n)) w') :
    wpList Try.prog ops Q (o :: rest) a w := by
  obtain ⟨i0, hi0, hz0, hz1, hz2⟩ := info_parts byte_info
  exact wpList_make_own w hg l c _ hop base 5 i0 _ 1 Try.underlying23 hi0 hz0 hz1 kl kc C n hl hc hC (by rw [hz2]; omega) (by simp only [maxLen]; omega) hbase hK

/-- bytes as a string -/
def strOf (bs : List Nat) : ByteArray := strOfNums (bs.map fun (b : Nat) => (b : Int))
theorem str_of {P : Program} {w : World} {B n : Nat} {A : Option Addr} {bs : List Nat} (h : Bytes w B A n bs) (c : Nat) (src dst e : TypeId)
    (hs : P.underlying src = some (.slice e)) (he : P.underlying e = some (.int .u8)) (hd : P.underlying dst = some .string) :
    (convert src dst (.slice A n c)).run P w = .ok (.string (strOf bs)) w := by
  rw [run_convert_bytes_string w src dst e _ n c hs he hd]
  rcases A with _ | a
  · have hn : n = 0 := by
      rcases Nat.eq_zero_or_pos n with h0 | h0
      · exact h0
      · obtain ⟨ad, h1, _⟩ := h.1.2 h0
        cases h1
    have hb : bs = [] := List.eq_nil_of_length_eq_zero (by rw [h.len, hn])
    subst hb
    simp [Conv.bytesToString, strOf, strOfNums]
    rfl
  · have hcell : ∀ j v, (u8s bs)[j]? = some v → w.cell? (a.add j) = some v := by
      intro j v hj
      have hlt : j < n := by
        rcases Nat.lt_or_ge j n with h1 | h1
        · exact h1
        · rw [List.getElem?_eq_none (by rw [u8s_length, h.len]; exact h1)] at hj
          cases hj
      obtain ⟨ad, he', _, hc⟩ := h.1.2 (by omega)
      injection he' with he'
      subst he'
      exact hc j v hj
    have hl : (loadCells a n).run P w = .ok ((bs.map fun (b : Nat) => (b : Int)).map (Value.int .u8)).toArray w := by
      have h1 := run_loadCells_list (P := P) w a (u8s bs) hcell
      rw [u8s_length, h.len] at h1
      rw [h1, List.map_map]
      rfl
    rw [run_bytesToString w _ n c _ hl, foldl_push_bytes]
    simp [strOf, strOfNums, ByteArray.empty, ByteArray.emptyWithCapacity]
    rfl

/-- a row stays below what the call may write -/
theorem below_own {B : Nat} {w0 w w' : World} {base : Nat} {v : Value} {n : Nat} {bs : List Nat} (h : Below B w0 w) (hown : Own w base v n bs) (hB : B ≤ base) (hg : w.grownBy w' v.ownBlock) (hs : B ≤ w.heap.size) : Below B w0 w' :=
  h.grown hg hs (fun k hk => by have := (World.ownsRow.lt hown k hk).1; omega)
end Go.Proofs.Ytgddenhnpjoabaa

/-
  Where the program's writers and readers lie; bytes.Clone. No condition.
-/
namespace Go.Proofs.Ytgddenhnpjoabaa
open Go.RowKit
set_option linter.unusedSimpArgs false
set_option linter.unusedVariables false
theorem bytes_nil (A : Option Addr) (n c : Nat) (w : World) : (binOp .eql 23 (.slice A n c) (.slice none 0 0)).run Try.prog w = .ok (.bool A.isNone) w := by
  cases A <;> kernel_rfl
theorem Reads.since {w w' : World} {B size n : Nat} {A : Option Addr} {xs : List Value} (h : Reads w B size A n xs) (hb : Below w.heap.size w w') : Reads w' B size A n xs :=
  ⟨h.1, fun hn => by
    obtain ⟨ad, e, hB, hc⟩ := h.2 hn
    exact ⟨ad, e, hB, fun j u hu => (hb.cell (World.block_lt_of_cell? w _ (hc j u hu))).trans (hc j u hu)⟩⟩
theorem Bytes.since {w w' : World} {B n : Nat} {A : Option Addr} {bs : List Nat} (h : Bytes w B A n bs) (hb : Below w.heap.size w w') : Bytes w' B A n bs := ⟨h.1.since hb, h.2⟩
theorem below_alloc (w : World) (o : Obj) : Below w.heap.size w (w.alloc o) := (Below.refl _ _).alloc (Nat.le_refl _) _
/-- what clone hands back -/
theorem clone_any (A : Option Addr) (n c : Nat) (bs : List Nat) (w : World) (B : Nat) (hn : n ≤ 10000000) (hb : Bytes w B A n bs) :
    Calls Try.prog 91 #[.slice A n c] w fun e w' => ∃ v, e = .returned v ∧ Own w' w.heap.size v n bs ∧ Below w.heap.size w w' := by
  have hnil := bytes_nil A n c
  rcases A with _ | ad
  · have hn0 : n = 0 := by
      rcases Nat.eq_zero_or_pos n with h | h
      · exact h
      · obtain ⟨_, h, _⟩ := hb.1.2 h; cases h
    subst hn0
    obtain rfl : bs = [] := List.eq_nil_of_length_eq_zero hb.len
    simp only [Option.isNone_none] at hnil
    go_enter Try.func91, Try.ntmps91
    go_wp2
    go_ret
    exact ⟨_, rfl, Own.nil _ _, Below.refl _ _⟩
  · simp only [Option.isNone_some] at hnil
    have hb1 := hb.since (below_alloc w (.cells #[] 5))
    go_enter Try.func91, Try.ntmps91
    go_wp2_with (refine app_bytes (.tmp 5) (.tmp 6) rfl rfl w.heap.size (.slice (some ⟨w.heap.size, 0, none⟩) 0 0) 0 [] rfl (Own.new w w.heap.size (Nat.le_refl _)) B (some ad) n c bs rfl hb1 (by omega) (by simp) ?_
                 intro v2 w2 h2 g2 a2)
    go_ret
    exact ⟨v2, rfl, by simpa using h2, below_own (below_alloc w _) (Own.new w w.heap.size (Nat.le_refl _)) (Nat.le_refl _) g2 (by simp)⟩

/-! ### a writer -/
/-- a writer of the call's own lies at g, and has the bytes bs -/
def WrAt (w : World) (base : Nat) (F : List Nat) (g : Nat) (bs : List Nat) : Prop :=
  ∃ v, F = g :: rowOf v ∧ Blk w g 77 #[v] ∧ Own w base v bs.length bs ∧ base ≤ g ∧ ∀ b ∈ bs, b < 256
def WrTo (w : World) (base : Nat) (F : List Nat) (g : Nat) (bs : List Nat) (w' : World) : Prop := ∃ F', WrAt w' base F' g bs ∧ Only F w w' ∧ Fresh w F F'
section
variable {w w' : World} {base g : Nat} {F : List Nat} {bs : List Nat}
theorem WrAt.of (h : WrAt w base F g bs) (hk : ∀ k, k ∈ F → w'.heap[k]? = w.heap[k]?) : WrAt w' base F g bs := by
  obtain ⟨v, rfl, h1, h2, h3⟩ := h
  exact ⟨v, rfl, h1.of (hk g (by simp)), row_of h2 (fun k hk' => hk k (by simp [hk'])), h3⟩
theorem WrAt.under (h : WrAt w base F g bs) : Under w F := by
  obtain ⟨v, rfl, h1, h2, h3⟩ := h
  intro k hk
  rcases List.mem_cons.1 hk with rfl | hk
  · exact h1.lt
  · exact row_under h2 k hk
theorem WrAt.over (h : WrAt w base F g bs) : Over base F := by
  obtain ⟨v, rfl, h1, h2, h3, h4⟩ := h
  intro k hk
  rcases List.mem_cons.1 hk with rfl | hk
  · exact h3
  · exact row_over h2 k hk
theorem WrAt.below (h : WrAt w base F g bs) (hb : Below w.heap.size w w') : WrAt w' base F g bs := h.of fun k hk => hb.block k (h.under k hk)
theorem WrAt.weaken {base' : Nat} (h : WrAt w base F g bs) (hb : base' ≤ base) : WrAt w base' F g bs := by
  obtain ⟨v, rfl, h1, h2, h3, h4⟩ := h
  exact ⟨v, rfl, h1, h2.weaken hb, Nat.le_trans hb h3, h4⟩
theorem WrTo.trans {bs' : List Nat} {w1 : World} {F1 : List Nat} (ho : Only F w w1) (hf : Fresh w F F1) (h : WrTo w1 base F1 g bs' w') : WrTo w base F g bs' w' := by
  obtain ⟨F2, h1, h2, h3⟩ := h
  exact ⟨F2, h1, ho.trans h2 hf, hf.trans h3 ho.size⟩
end
theorem ptr_nil (p : Option Addr) (w : World) : (binOp .neq 75 (.pointer p) (.pointer none)).run Try.prog w = .ok (.bool p.isSome) w := by
  cases p <;> kernel_rfl
theorem put_nil (v : Value) (w : World) : Calls Try.prog 85 #[.pointer none, v] w fun e w' => e = .returned (.tuple #[]) ∧ w = w' := by
  go_enter Try.func85, Try.ntmps85
  go_wp2
  refine bodyPost_end (results_none rfl _ _ _) rfl ?_
  exact ⟨rfl, rfl⟩
theorem put_any (w : World) (base g : Nat) (F : List Nat) (bs news : List Nat) (B : Nat) (A : Option Addr) (n c : Nat) (h : WrAt w base F g bs) (hb : Bytes w B A n news) (hl : bs.length + n ≤ 10000000) (hB : base ≤ w.heap.size) :
    Calls Try.prog 85 #[.pointer (some ⟨g, 0, none⟩), .slice A n c] w fun e w' => e = .returned (.tuple #[]) ∧ WrTo w base F g (bs ++ news) w' := by
  obtain ⟨v, rfl, h1, h2, h3, h4⟩ := h
  have hne : v.ownBlock ≠ some g := own_blk_ne h2 h1 (by decide)
  obtain ⟨A1, c1, rfl, -, -, -⟩ := h2.form
  have hc : w.cell? ⟨g, 0, none⟩ = some (.slice A1 bs.length c1) := by rw [h1.cell]; rfl
  have hlt := h1.lt
  go_enter Try.func85, Try.ntmps85
  go_wp2_with (refine app_bytes (.tmp 10) (.tmp 11) rfl rfl base (.slice A1 bs.length c1) bs.length bs rfl h2 B A n c news rfl hb (by omega) hB ?_
               intro v2 w2 k2 g2 a2
               have hc2 : w2.cell? ⟨g, 0, none⟩ = some (.slice A1 bs.length c1) := by rw [(h1.grown g2 (Ne.symm hne)).cell]; rfl
               have hf2 : w2.frozen? ⟨g, 0, none⟩ = false := (h1.grown g2 (Ne.symm hne)).frozen _
               obtain ⟨A2, c2, rfl, -, -, -⟩ := k2.form)
  refine bodyPost_end (results_none rfl _ _ _) rfl ?_
  have hb2 := h1.grown g2 (Ne.symm hne)
  have hne2 : (Value.slice A2 (bs.length + n) c2).ownBlock ≠ some g := own_blk_ne k2 hb2 (by decide)
  have hlen : (bs ++ news).length = bs.length + n := by rw [List.length_append, hb.len]
  refine ⟨rfl, g :: rowOf (.slice A2 (bs.length + n) c2), ⟨_, rfl, hb2.set_ 0 _, ?_, h3, fun b hm => ?_⟩, ?_, fun k hk => ?_⟩
  · rw [hlen]
    exact row_of k2 fun k hk => Below.heap_setCell _ _ _ _ (fun e => hne2 (by subst e; exact mem_rowOf.1 hk))
  · rcases List.mem_append.1 hm with hm | hm
    · exact h4 b hm
    · exact hb.2 b hm
  · exact ((Only.refl _ _).grown g2 (fun k e => .inl (by simp [rowOf, ← e]))).setCell (.inl (by simp)) _
  · rcases List.mem_cons.1 hk with rfl | hk
    · exact .inl (by simp)
    · have hk' := mem_rowOf.1 hk
      rcases a2 with e | e
      · exact .inl (List.mem_cons_of_mem _ (mem_rowOf.2 (by rw [← e]; exact hk')))
      · rw [e] at hk'; injection hk' with hk'; exact .inr (by omega)
/-! ### packed -/
theorem eight_zero (w : World) : (zeroValue 125).run Try.prog w = .ok (.agg #[.int .u8 0, .int .u8 0, .int .u8 0, .int .u8 0, .int .u8 0, .int .u8 0, .int .u8 0, .int .u8 0]) w := by kernel_rfl
theorem numB_eq (n : Int) : (u8s (numB n)).toArray = #[.int .u8 (n % 256), .int .u8 (n / 256 % 256), .int .u8 (n / 65536 % 256), .int .u8 (n / 16777216 % 256), .int .u8 (n / 4294967296 % 256), .int .u8 (n / 1099511627776 % 256), .int .u8 (n / 281474976710656 % 256), .int .u8 (n / 72057594037927936 % 256)] := by
  simp only [numB, le, u8s, u8, nat64, List.map_cons, List.map_nil]
  simp only [List.toArray, Array.mk.injEq, List.cons.injEq, Value.int.injEq, true_and, and_true]
  refine ⟨?_, ?_, ?_, ?_, ?_, ?_, ?_, ?_⟩ <;> omega
theorem packed_any (n : Int) (w : World) : Calls Try.prog 84 #[.int .i64 n] w fun e w' => e = .returned (.agg (u8s (numB n)).toArray) ∧ Below w.heap.size w w' := by
  have hz := eight_zero
  go_enter Try.func84, Try.ntmps84
  go_wp2
  go_rounds 9
  refine bodyPost_ret (results_cell_row rfl _ _ w.heap.size 125 _ (0, 0) _ rfl ((Blk.new w _ _).alloc _) Try.underlying125 rfl (by kernel_rfl)) rfl ?_
  exact ⟨by rw [numB_eq], ((Below.refl _ _).alloc (Nat.le_refl _) _).alloc (by simp) _⟩
theorem unpacked_any (b0 b1 b2 b3 b4 b5 b6 b7 : Nat) (w : World) (h0 : b0 < 256) (h1 : b1 < 256) (h2 : b2 < 256) (h3 : b3 < 256) (h4 : b4 < 256) (h5 : b5 < 256) (h6 : b6 < 256) (h7 : b7 < 256) :
    Calls Try.prog 143 #[.agg (u8s [b0, b1, b2, b3, b4, b5, b6, b7]).toArray] w fun e w' => e = .returned (.int .i64 (numOf [b0, b1, b2, b3, b4, b5, b6, b7])) ∧ Below w.heap.size w w' := by
  simp only [u8s, u8, List.map_cons, List.map_nil]
  have x0 : ∀ w, (Instr.index 125 (.agg #[.int .u8 (b0 : Int), .int .u8 (b1 : Int), .int .u8 (b2 : Int), .int .u8 (b3 : Int), .int .u8 (b4 : Int), .int .u8 (b5 : Int), .int .u8 (b6 : Int), .int .u8 (b7 : Int)]) (.int .i64 0)).run Try.prog w = .ok (.int .u8 b0) w := fun w => by kernel_rfl
  have x1 : ∀ w, (Instr.index 125 (.agg #[.int .u8 (b0 : Int), .int .u8 (b1 : Int), .int .u8 (b2 : Int), .int .u8 (b3 : Int), .int .u8 (b4 : Int), .int .u8 (b5 : Int), .int .u8 (b6 : Int), .int .u8 (b7 : Int)]) (.int .i64 1)).run Try.prog w = .ok (.int .u8 b1) w := fun w => by kernel_rfl
  have x2 : ∀ w, (Instr.index 125 (.agg #[.int .u8 (b0 : Int), .int .u8 (b1 : Int), .int .u8 (b2 : Int), .int .u8 (b3 : Int), .int .u8 (b4 : Int), .int .u8 (b5 : Int), .int .u8 (b6 : Int), .int .u8 (b7 : Int)]) (.int .i64 2)).run Try.prog w = .ok (.int .u8 b2) w := fun w => by kernel_rfl
  have x3 : ∀ w, (Instr.index 125 (.agg #[.int .u8 (b0 : Int), .int .u8 (b1 : Int), .int .u8 (b2 : Int), .int .u8 (b3 : Int), .int .u8 (b4 : Int), .int .u8 (b5 : Int), .int .u8 (b6 : Int), .int .u8 (b7 : Int)]) (.int .i64 3)).run Try.prog w = .ok (.int .u8 b3) w := fun w => by kernel_rfl
  have x4 : ∀ w, (Instr.index 125 (.agg #[.int .u8 (b0 : Int), .int .u8 (b1 : Int), .int .u8 (b2 : Int), .int .u8 (b3 : Int), .int .u8 (b4 : Int), .int .u8 (b5 : Int), .int .u8 (b6 : Int), .int .u8 (b7 : Int)]) (.int .i64 4)).run Try.prog w = .ok (.int .u8 b4) w := fun w => by kernel_rfl
  have x5 : ∀ w, (Instr.index 125 (.agg #[.int .u8 (b0 : Int), .int .u8 (b1 : Int), .int .u8 (b2 : Int), .int .u8 (b3 : Int), .int .u8 (b4 : Int), .int .u8 (b5 : Int), .int .u8 (b6 : Int), .int .u8 (b7 : Int)]) (.int .i64 5)).run Try.prog w = .ok (.int .u8 b5) w := fun w => by kernel_rfl
  have x6 : ∀ w, (Instr.index 125 (.agg #[.int .u8 (b0 : Int), .int .u8 (b1 : Int), .int .u8 (b2 : Int), .int .u8 (b3 : Int), .int .u8 (b4 : Int), .int .u8 (b5 : Int), .int .u8 (b6 : Int), .int .u8 (b7 : Int)]) (.int .i64 6)).run Try.prog w = .ok (.int .u8 b6) w := fun w => by kernel_rfl
  have x7 : ∀ w, (Instr.index 125 (.agg #[.int .u8 (b0 : Int), .int .u8 (b1 : Int), .int .u8 (b2 : Int), .int .u8 (b3 : Int), .int .u8 (b4 : Int), .int .u8 (b5 : Int), .int .u8 (b6 : Int), .int .u8 (b7 : Int)]) (.int .i64 7)).run Try.prog w = .ok (.int .u8 b7) w := fun w => by kernel_rfl
  go_enter Try.func143, Try.ntmps143
  go_wp2
  go_rounds 9
  go_ret
  refine ⟨?_, below_alloc _ _⟩
  exact congrArg (fun q => Ending.returned (.int .i64 q)) (or_eight b0 b1 b2 b3 b4 b5 b6 b7 h0 h1 h2 h3 h4 h5 h6 h7)
end Go.Proofs.Ytgddenhnpjoabaa

/-
  Values of many cells: how a struct of two parts, or a slice of one element, is put together, whatever the cells. No condition but the sizes.
-/
namespace Go.Proofs.Ytgddenhnpjoabaa
open Go.RowKit

theorem fill_two (n0 n1 : Nat) (v0 v1 : Value) (z : Array Value) (h0 : v0.cells.size = n0) (h1 : v1.cells.size = n1) (hz : z.size = n0 + n1) :
    Instr.fill (fun k => [(0, n0), (n0, n1)].toArray[k]?) z [(0, v0), (1, v1)] = some (v0.cells ++ v1.cells) := by
  obtain ⟨g1, g2⟩ := Great.foldl_set 0 v0.cells.toList 0 z
  obtain ⟨g3, g4⟩ := Great.foldl_set n0 v1.cells.toList 0 ((v0.cells.toList.zipIdx 0).foldl (fun cs (x : Value × Nat) => cs.setIfInBounds (0 + x.2) x.1) z)
  have e : ∀ (v : Value) (off : Nat) (c : Array Value), v.cells.zipIdx.foldl (fun cs (x : Value × Nat) => cs.setIfInBounds (off + x.2) x.1) c = (v.cells.toList.zipIdx 0).foldl (fun cs (x : Value × Nat) => cs.setIfInBounds (off + x.2) x.1) c := fun v off c => by
    rw [← Array.foldl_toList, Array.toList_zipIdx]
  have hf : Instr.fill (fun k => [(0, n0), (n0, n1)].toArray[k]?) z [(0, v0), (1, v1)] = some (v1.cells.zipIdx.foldl (fun cs (x : Value × Nat) => cs.setIfInBounds (n0 + x.2) x.1) (v0.cells.zipIdx.foldl (fun cs (x : Value × Nat) => cs.setIfInBounds (0 + x.2) x.1) z)) := by
    unfold Instr.fill
    simp only [List.getElem?_toArray, List.getElem?_cons_zero]
    rw [if_neg (by simp; omega)]
    unfold Instr.fill
    simp only [List.getElem?_cons_succ, List.getElem?_cons_zero]
    rw [if_neg (by rw [e, g1]; simp; omega)]
    rfl
  rw [hf, e, e]
  congr 1
  apply Array.ext_getElem?
  intro k
  have g5 : ∀ k, z.size ≤ k → (((v0.cells.toList.zipIdx 0).foldl (fun cs (x : Value × Nat) => cs.setIfInBounds (0 + x.2) x.1) z))[k]? = none := fun k hk => Array.getElem?_eq_none (by omega)
  rw [g4 k, g1]
  simp only [Nat.add_zero, Array.length_toList, h1]
  rw [Array.getElem?_append]
  by_cases hk : k < n0
  · rw [if_neg (by omega), g2 k, if_pos (by simp [h0]; omega), if_pos (by omega)]
    simp
  · by_cases hk2 : k < n0 + n1
    · rw [if_pos ⟨by omega, hk2, by omega⟩, if_neg (by omega), h0]
      simp
    · rw [if_neg (by omega), g5 k (by omega), if_neg (by omega), Array.getElem?_eq_none (by omega)]

/-- what the walk's own 'build' makes of a struct of two parts, the second of one cell: rules for it -/
theorem fold_cells (cs : List Value) (Z : Array Value) (z : Value) (hz : Z.size = cs.length + 1) (hl : Z[cs.length]? = some z) :
    List.foldl (fun (c : Array Value) (x : Value × Nat) => c.setIfInBounds x.snd x.fst) Z cs.zipIdx = (cs ++ [z]).toArray := by
  obtain ⟨g1, g2⟩ := Great.foldl_set 0 cs 0 Z
  simp only [Nat.zero_add] at g1 g2
  apply Array.ext_getElem?
  intro k
  rw [g2 k]
  simp only [List.getElem?_toArray, Nat.zero_le, true_and, Nat.sub_zero]
  by_cases hk : k < cs.length
  · rw [if_pos ⟨hk, by omega⟩, List.getElem?_append_left hk]
  · rw [if_neg (by omega), List.getElem?_append_right (by omega)]
    by_cases he : k = cs.length
    · subst he; simp [hl]
    · rw [Array.getElem?_eq_none (by omega), List.getElem?_eq_none (by simp; omega)]
theorem fold_whole (cs : List Value) (Z : Array Value) (hz : Z.size = cs.length) :
    List.foldl (fun (c : Array Value) (x : Value × Nat) => c.setIfInBounds x.snd x.fst) Z cs.zipIdx = cs.toArray := by
  obtain ⟨g1, g2⟩ := Great.foldl_set 0 cs 0 Z
  simp only [Nat.zero_add] at g1 g2
  apply Array.ext_getElem?
  intro k
  rw [g2 k]
  simp only [List.getElem?_toArray, Nat.zero_le, true_and, Nat.sub_zero]
  by_cases hk : k < cs.length
  · rw [if_pos ⟨hk, by omega⟩]
  · rw [if_neg (by omega), Array.getElem?_eq_none (by omega), List.getElem?_eq_none (by omega)]
theorem set_last (cs : List Value) (n : Nat) (hn : cs.length = n) (z x : Value) : (cs ++ [z]).toArray.setIfInBounds n x = (cs ++ [x]).toArray := by
  subst hn
  apply Array.ext_getElem?
  intro k
  simp only [List.setIfInBounds_toArray, List.getElem?_toArray, List.getElem?_set]
  by_cases hk : cs.length = k
  · subst hk; simp
  · rw [if_neg hk]
    by_cases h2 : k < cs.length
    · rw [List.getElem?_append_left h2, List.getElem?_append_left h2]
    · rw [List.getElem?_append_right (by omega), List.getElem?_append_right (by omega), List.getElem?_eq_none (by simp; omega), List.getElem?_eq_none (by simp; omega)]
/-- a struct of two parts -/
theorem run_build_two {P : Program} {t : TypeId} {n0 n1 : Nat} {fields : Array Field} (hu : P.underlying t = some (.struct fields)) (hz : (P.info? t).bind (fun i => i.zero.map fun z => z.cells.size) = some (n0 + n1))
    (hp : fields.toList.mapM (fun f => (P.info? f.type).map fun i => (f.offset, i.size)) = some [(0, n0), (n0, n1)]) {v0 v1 : Value} (h0 : v0.cells.size = n0) (h1 : v1.cells.size = n1) (w : World) :
    (Instr.build t #[(0, v0), (1, v1)]).run P w = .ok (.agg (v0.cells ++ v1.cells)) w := by
  cases hi : P.info? t with
  | none => simp [hi] at hz
  | some it =>
    cases hz' : it.zero with
    | none => simp [hi, hz'] at hz
    | some z =>
      simp [hi, hz'] at hz
      refine run_build w t _ _ ?_
      unfold Program.built
      simp only [hi, hu, hz', hp]
      exact fill_two n0 n1 v0 v1 z.cells h0 h1 hz

/-- a slice of one element -/
theorem run_buildSlice_one {P : Program} {t e : TypeId} {size : Nat} (hu : P.underlying t = some (.slice e)) (hz : (P.info? e).bind (fun i => i.zero.map fun z => (i.size, z.cells.size)) = some (size, size)) (hs : 0 < size) (hb : size ≤ 16777216) {v : Value} (h0 : v.cells.size = size) (w : World) :
    (Instr.buildSlice t 1 #[(0, v)]).run P w = .ok (.slice (some ⟨w.heap.size, 0, none⟩) 1 1) (w.alloc (.cells v.cells e)) := by
  cases hi : P.info? e with
  | none => simp [hi] at hz
  | some ie =>
    cases hz' : ie.zero with
    | none => simp [hi, hz'] at hz
    | some z =>
      simp [hi, hz'] at hz
      obtain ⟨e1, e2⟩ := hz
      refine run_buildSlice w t e 1 _ _ ie z hu hi hz' (by rw [e1]; omega) (by rw [e1]; omega) ?_
      have := Great.fill_whole hs [v] ((Array.range (1 * ie.size)).map (z.cells[· % z.cells.size]!)) (fun u hu => by simp at hu; subst hu; exact h0) (by simp [e1])
      rw [e1] at this ⊢
      simpa using this
/-- a store of many cells into the variable that was made last -/
theorem wpList_store_new {P : Program} {ops : Array Oper} {rest : List Oper} {o : Oper} {a : Act} {w : World} {Q : Exit → Act → World → Prop} (hgd : o.guard = none) (ty : TypeId) (x y : Operand) (ho : o.op = .store ty x y)
    (cells : List Value) (Z : Array Value) (hx : a.eval x = .pointer (some ⟨w.heap.size, 0, none⟩)) (hy : a.eval y = .agg cells.toArray) (hi : (P.info? ty).map (·.size) = some cells.length) (hz : Z.size = cells.length) (h1 : ∀ v ∈ cells, v.oneCell' = true)
    (h : wpList P ops Q rest (a.put o.dst undef) (w.alloc (.cells cells.toArray ty))) : wpList P ops Q (o :: rest) a (w.alloc (.cells Z ty)) :=
  wpList_plain hgd fun _ hK => by
    have hr := run_storeAt_new (P := P) w ty Z cells.toArray (by simpa using hi) (by simpa using hz) (all_oneCell_toArray h1)
    unfold Oper.wp execOp
    simp only [ho, hx, hy, Sem.run_bind, hr, Result.andThen_ok]
    exact hK _ _ h
/-- the same, the block's number as the walk spells it -/
theorem wpList_store_newN {P : Program} {ops : Array Oper} {rest : List Oper} {o : Oper} {a : Act} {w : World} {Q : Exit → Act → World → Prop} (hgd : o.guard = none) (ty : TypeId) (x y : Operand) (ho : o.op = .store ty x y) (N : Nat) (hN : w.heap.size = N)
    (cells : List Value) (Z : Array Value) (hx : a.eval x = .pointer (some ⟨N, 0, none⟩)) (hy : a.eval y = .agg cells.toArray) (hi : (P.info? ty).map (·.size) = some cells.length) (hz : Z.size = cells.length) (h1 : ∀ v ∈ cells, v.oneCell' = true)
    (h : wpList P ops Q rest (a.put o.dst undef) (w.alloc (.cells cells.toArray ty))) : wpList P ops Q (o :: rest) a (w.alloc (.cells Z ty)) := by
  subst hN
  exact wpList_store_new hgd ty x y ho cells Z hx hy hi hz h1 h
end Go.Proofs.Ytgddenhnpjoabaa

/-
  A region that draws its order, taken by hand: one operation that alone may come up; two of which either may come up first; one that yields in whatever world. No condition.
-/
namespace Go.Proofs.Ytgddenhnpjoabaa
open Go.RowKit
section
variable {P : Program} {ops : Array Oper} {Q : Exit → Act → World → Prop} {md : Region.Mode}
/-- one operation alone may come up -/
theorem do_one {i : Nat} {o : Oper} {fuel : Nat} {listed : Array Bool} {a : Act} {w : World} (hr : Region.ready md ops listed = [i]) (ho : ops[i]? = some o) (hw : Region.wanted o (yielded ops a.tmps) = true)
    (h : Oper.wp P o a w (fun a' w' => wpAny P md ops Q fuel (listed.setIfInBounds i true) a' w') Q) : wpAny P md ops Q (fuel + 1) listed a w :=
  wpAny_ready hr (by simp) (AllReady.cons ho (fun K hK => by rw [if_pos hw]; exact Oper.wp_mono (fun a w h => hK a w h) h) AllReady.nil)
/-- it yields a value and leaves the world -/
theorem wp_yields {o : Oper} {a : Act} {w : World} {K : Act → World → Prop} {v : Value} (hv : (execOp a.eval o).run P w = .ok (.value v) w) (h : K (a.put o.dst v) w) : Oper.wp P o a w K Q := by
  unfold Oper.wp
  rw [hv]
  exact h
/-- it yields a value and leaves another world -/
theorem wp_ran {o : Oper} {a : Act} {w w' : World} {K : Act → World → Prop} {v : Value} (hv : (execOp a.eval o).run P w = .ok (.value v) w') (h : K (a.put o.dst v) w') : Oper.wp P o a w K Q := by
  unfold Oper.wp
  rw [hv]
  exact h
/-- it calls -/
theorem wp_called {o : Oper} {a : Act} {w : World} {K : Act → World → Prop} {f : FuncId} {args : Array Value} {R : Ending → World → Prop} (hv : (execOp a.eval o).run P w = .ok (.enter f args) w) (hc : Calls P f args w R) (h : ∀ e w', R e w' → ∃ v, e = .returned v ∧ K (a.put o.dst v) w') : Oper.wp P o a w K Q := by
  unfold Oper.wp
  rw [hv, Oper.upon_enter]
  refine hc.mono fun e w' hr => ?_
  obtain ⟨v, rfl, hk⟩ := h e w' hr
  exact hk
/-- whichever comes up; till what waits for i comes up, T is shown behind each -/
def wpT (P : Program) (md : Region.Mode) (ops : Array Oper) (Q : Exit → Act → World → Prop) (T : World → Prop) (i : Nat) : Nat → Bool → Array Bool → Act → World → Prop
  | 0, _, l, a, w => Region.ready md ops l = [] ∧ Q .normal a w
  | f + 1, on, l, a, w => (Region.ready md ops l = [] → Q .normal a w) ∧ ∀ j ∈ Region.ready md ops l,
      wpOp P ops Q j (fun a' w' => ((on && (Region.ready md ops (l.setIfInBounds i false)).contains j) = true → T w') ∧
        wpT P md ops Q T i f (on && (Region.ready md ops (l.setIfInBounds i false)).contains j) (l.setIfInBounds j true) a' w') a w
variable {T : World → Prop} {i : Nat}
theorem any_of_T : ∀ (f : Nat) (on : Bool) (l : Array Bool) (a : Act) (w : World), wpT P md ops Q T i f on l a w → wpAny P md ops Q f l a w
  | 0, _, _, _, _, h => h
  | f + 1, _, _, _, _, h => ⟨h.1, fun j hj => wpOp_mono (fun a' w' h' => any_of_T f _ _ a' w' h'.2) (h.2 j hj)⟩
theorem T_of_any : ∀ (f : Nat) (l : Array Bool) (a : Act) (w : World), wpAny P md ops Q f l a w → wpT P md ops Q T i f false l a w
  | 0, _, _, _, h => h
  | f + 1, _, _, _, h => ⟨h.1, fun j hj => wpOp_mono (fun a' w' h' => ⟨fun e => by simp at e, T_of_any f _ a' w' h'⟩) (h.2 j hj)⟩
theorem set_back {l : Array Bool} (h : l.getD i true = false) : (l.setIfInBounds i true).setIfInBounds i false = l := by
  have hlt : i < l.size := by
    rcases Nat.lt_or_ge i l.size with h1 | h1
    · exact h1
    · simp [Array.getElem?_eq_none h1] at h
  apply Array.ext_getElem?
  intro k
  by_cases hk : i = k
  · subst hk
    simp [hlt] at h ⊢
    exact h
  · simp [hk]
/-- a load is taken first; T, which tells what it loads, is shown behind what may come ahead of it, and no longer -/
theorem T_first {oi : Oper} {v : Value} (hi : ops[i]? = some oi) (hsel : ∀ (j : Nat) (o : Oper) cs b, ops[j]? = some o → o.op ≠ .select cs b)
    (hQ : ∀ c a w, Q (.panic c) (a.put oi.dst v) w → Q (.panic c) a w) :
    ∀ (f : Nat) (l : Array Bool) (a : Act) (w : World),
      (∀ j oj, ops[j]? = some oj → j ≠ i → l.getD j true = false → (∀ e ∈ oj.after, Region.binds md e = true → e.on ≠ i) → oi.apart ops oj = true) →
      i ∈ Region.ready md ops l → YieldsIf P ops T oi v a → T w →
      wpT P md ops Q T i f true (l.setIfInBounds i true) (a.put oi.dst v) w → wpAny P md ops Q (f + 1) l a w
  | 0, l, a, w, _, hr, hy, hT, H => by
    refine ⟨fun h => (by rw [h] at hr; cases hr), fun j hj => ?_⟩
    by_cases hji : j = i
    · subst hji
      exact hy.wpOp hi hT H
    · have := ready_mono hj hji
      rw [H.1] at this
      cases this
  | f + 1, l, a, w, hfree, hr, hy, hT, H => by
    refine ⟨fun h => (by rw [h] at hr; cases hr), fun j hj => ?_⟩
    by_cases hji : j = i
    · subst hji
      exact hy.wpOp hi hT (any_of_T _ _ _ _ _ H)
    · obtain ⟨hjun, oj, hoj, hall⟩ := mem_ready.1 hj
      have hiun : l.getD i true = false := (mem_ready.1 hr).1
      have h1 := H.2 j (ready_mono hj hji)
      rw [set_back hiun] at h1
      have hon : (true && (Region.ready md ops l).contains j) = true := by simpa using hj
      rw [hon] at h1
      have hnot : ∀ e ∈ oj.after, Region.binds md e = true → e.on ≠ i := fun e he hb heq => by
        have h2 := hall e he hb
        rw [heq] at h2
        rcases Nat.lt_or_ge i l.size with h' | h'
        · simp [h'] at hiun h2
          rw [hiun] at h2
          cases h2
        · simp [Array.getElem?_eq_none h'] at h2
      have h2 := wpOp_putIf hoj (hfree j oj hoj hji hjun hnot) (fun cs b => hsel i oi cs b hi) (fun cs b => hsel j oj cs b hoj) hQ hy h1
      refine wpOp_mono (fun a' w' h3 => ?_) h2
      obtain ⟨hy', hT', H'⟩ := h3
      rw [Array.setIfInBounds_comm _ _ (Ne.symm hji)] at H'
      refine T_first hi hsel hQ f _ a' w' (fun k ok hk hki hun hno => hfree k ok hk hki ?_ hno) (ready_mono hr (Ne.symm hji)) hy' (hT' rfl) H'
      by_cases hjk : j = k
      · subst hjk; exact hjun
      · rw [getD_set_ne true hjk] at hun; exact hun
theorem T_take {oi : Oper} {v : Value} {f : Nat} {l : Array Bool} {a : Act} {w : World} (hi : ops[i]? = some oi) (hs : Region.noSelect ops = true) (hf : Region.free md ops l i = true) (hr : (Region.ready md ops l).contains i = true)
    (hQ : ∀ c a w, Q (.panic c) (a.put oi.dst v) w → Q (.panic c) a w) (hy : YieldsIf P ops T oi v a) (hT : T w)
    (h : wpT P md ops Q T i f true (l.setIfInBounds i true) (a.put oi.dst v) w) : wpAny P md ops Q (f + 1) l a w :=
  T_first hi (Region.noSelect_spec hs) hQ f l a w (Region.free_spec hi hf) (by simpa using hr) hy hT h
/-- one alone may come up, and T stands behind it -/
theorem T_one {j : Nat} {o : Oper} {f : Nat} {l : Array Bool} {a : Act} {w : World} (hr : Region.ready md ops l = [j]) (ho : ops[j]? = some o) (hw : Region.wanted o (yielded ops a.tmps) = true)
    (hc : (Region.ready md ops (l.setIfInBounds i false)).contains j = true)
    (h : Oper.wp P o a w (fun a' w' => T w' ∧ wpT P md ops Q T i f true (l.setIfInBounds j true) a' w') Q) : wpT P md ops Q T i (f + 1) true l a w := by
  refine ⟨fun h0 => absurd (hr ▸ h0) (by simp), fun k hk => ?_⟩
  rw [hr] at hk
  obtain rfl := List.mem_singleton.1 hk
  refine wpOp_step ho (fun K hK => ?_)
  rw [if_pos hw]
  refine Oper.wp_mono (fun a' w' h' => hK a' w' ?_) h
  rw [Bool.true_and, hc]
  exact ⟨fun _ => h'.1, h'.2⟩
/-- one alone may come up, and it waits for i: T is no longer wanted -/
theorem T_off {j : Nat} {o : Oper} {f : Nat} {l : Array Bool} {a : Act} {w : World} (hr : Region.ready md ops l = [j]) (ho : ops[j]? = some o) (hw : Region.wanted o (yielded ops a.tmps) = true)
    (hc : (Region.ready md ops (l.setIfInBounds i false)).contains j = false)
    (h : Oper.wp P o a w (fun a' w' => wpAny P md ops Q f (l.setIfInBounds j true) a' w') Q) : wpT P md ops Q T i (f + 1) true l a w := by
  refine ⟨fun h0 => absurd (hr ▸ h0) (by simp), fun k hk => ?_⟩
  rw [hr] at hk
  obtain rfl := List.mem_singleton.1 hk
  refine wpOp_step ho (fun K hK => ?_)
  rw [if_pos hw]
  refine Oper.wp_mono (fun a' w' h' => hK a' w' ?_) h
  rw [Bool.true_and, hc]
  exact ⟨fun e => (by cases e), T_of_any _ _ _ _ h'⟩
/-- the region begins -/
theorem any_begin {id : Nat} {a : Act} {w : World} (hm : P.follows .mixedOrders = true) (h : wpAny P .any ops (NoPanic Q) ops.size (Array.replicate ops.size false) a w.drew) : (Code.region id ops true).wp P Q a w :=
  wp_region_noPanic (wp_region_any hm h)
end
end Go.Proofs.Ytgddenhnpjoabaa

/-
  A region that draws its order, taken by hand, where one condition on the world holds behind each operation but the last one: what reads under the condition is taken first. No condition.
-/
namespace Go.Proofs.Ytgddenhnpjoabaa
open Go.RowKit
section
variable {P : Program} {ops : Array Oper} {Q : Exit → Act → World → Prop} {md : Region.Mode} {S : World → Prop} {L : Nat}
/-- S is shown behind each operation but L -/
def wpAnyL (P : Program) (md : Region.Mode) (ops : Array Oper) (Q : Exit → Act → World → Prop) (S : World → Prop) (L : Nat) : Nat → Array Bool → Act → World → Prop
  | 0, l, a, w => Region.ready md ops l = [] ∧ Q .normal a w
  | f + 1, l, a, w => (Region.ready md ops l = [] → Q .normal a w) ∧ ∀ j ∈ Region.ready md ops l, wpOp P ops Q j (fun a' w' => (j ≠ L → S w') ∧ wpAnyL P md ops Q S L f (l.setIfInBounds j true) a' w') a w
theorem any_of_L : ∀ (f : Nat) (l : Array Bool) (a : Act) (w : World), wpAnyL P md ops Q S L f l a w → wpAny P md ops Q f l a w
  | 0, _, _, _, h => h
  | f + 1, _, _, _, h => ⟨h.1, fun j hj => wpOp_mono (fun a' w' h' => any_of_L f _ a' w' h'.2) (h.2 j hj)⟩
theorem L_first {i : Nat} {oi oL : Oper} {v : Value} (hi : ops[i]? = some oi) (hL : ops[L]? = some oL) (hw : oL.after.any (fun e => Region.binds md e && e.on == i) = true) (hsel : ∀ (j : Nat) (o : Oper) cs b, ops[j]? = some o → o.op ≠ .select cs b)
    (hQ : ∀ c a w, Q (.panic c) (a.put oi.dst v) w → Q (.panic c) a w) :
    ∀ (f : Nat) (l : Array Bool) (a : Act) (w : World),
      (∀ j oj, ops[j]? = some oj → j ≠ i → l.getD j true = false → (∀ e ∈ oj.after, Region.binds md e = true → e.on ≠ i) → oi.apart ops oj = true) →
      i ∈ Region.ready md ops l → YieldsIf P ops S oi v a → S w →
      wpAnyL P md ops Q S L f (l.setIfInBounds i true) (a.put oi.dst v) w → wpAnyL P md ops Q S L (f + 1) l a w
  | 0, l, a, w, _, hr, hy, hS, H => by
    refine ⟨fun h => (by rw [h] at hr; cases hr), fun j hj => ?_⟩
    by_cases hji : j = i
    · subst hji
      exact hy.wpOp hi hS ⟨fun _ => hS, H⟩
    · have := ready_mono hj hji
      rw [H.1] at this
      cases this
  | f + 1, l, a, w, hfree, hr, hy, hS, H => by
    refine ⟨fun h => (by rw [h] at hr; cases hr), fun j hj => ?_⟩
    by_cases hji : j = i
    · subst hji
      exact hy.wpOp hi hS ⟨fun _ => hS, H⟩
    · obtain ⟨hjun, oj, hoj, hall⟩ := mem_ready.1 hj
      have hiun : l.getD i true = false := (mem_ready.1 hr).1
      have h1 := H.2 j (ready_mono hj hji)
      have hnot : ∀ e ∈ oj.after, Region.binds md e = true → e.on ≠ i := fun e he hb heq => by
        have h2 := hall e he hb
        rw [heq] at h2
        rcases Nat.lt_or_ge i l.size with h' | h'
        · simp [h'] at hiun h2
          rw [hiun] at h2
          cases h2
        · simp [Array.getElem?_eq_none h'] at h2
      have hjL : j ≠ L := by
        rintro rfl
        rw [hL] at hoj
        injection hoj with hoj
        subst hoj
        obtain ⟨k, hk, he⟩ := Array.any_eq_true.1 hw
        simp only [Bool.and_eq_true, beq_iff_eq] at he
        exact hnot _ (Array.getElem_mem hk) he.1 he.2
      have h2 := wpOp_putIf hoj (hfree j oj hoj hji hjun hnot) (fun cs b => hsel i oi cs b hi) (fun cs b => hsel j oj cs b hoj) hQ hy h1
      refine wpOp_mono (fun a' w' h3 => ?_) h2
      obtain ⟨hy', hS', H'⟩ := h3
      rw [Array.setIfInBounds_comm _ _ (Ne.symm hji)] at H'
      refine ⟨fun _ => hS' hjL, L_first hi hL hw hsel hQ f _ a' w' (fun k ok hk hki hun hno => hfree k ok hk hki ?_ hno) (ready_mono hr (Ne.symm hji)) hy' (hS' hjL) H'⟩
      by_cases hjk : j = k
      · subst hjk; exact hjun
      · rw [getD_set_ne true hjk] at hun; exact hun
/-- what reads under S is taken first -/
theorem L_take {i : Nat} {oi oL : Oper} {v : Value} {f : Nat} {l : Array Bool} {a : Act} {w : World} (hi : ops[i]? = some oi) (hL : ops[L]? = some oL) (hw : oL.after.any (fun e => Region.binds md e && e.on == i) = true) (hs : Region.noSelect ops = true) (hf : Region.free md ops l i = true) (hr : (Region.ready md ops l).contains i = true)
    (hQ : ∀ c a w, Q (.panic c) (a.put oi.dst v) w → Q (.panic c) a w) (hy : YieldsIf P ops S oi v a) (hS : S w)
    (h : wpAnyL P md ops Q S L f (l.setIfInBounds i true) (a.put oi.dst v) w) : wpAnyL P md ops Q S L (f + 1) l a w :=
  L_first hi hL hw (Region.noSelect_spec hs) hQ f l a w (Region.free_spec hi hf) (by simpa using hr) hy hS h
/-- the same where S is shown behind each operation -/
theorem S_first {i : Nat} {oi : Oper} {v : Value} (hi : ops[i]? = some oi) (hL : ops[L]? = none) (hsel : ∀ (j : Nat) (o : Oper) cs b, ops[j]? = some o → o.op ≠ .select cs b)
    (hQ : ∀ c a w, Q (.panic c) (a.put oi.dst v) w → Q (.panic c) a w) :
    ∀ (f : Nat) (l : Array Bool) (a : Act) (w : World),
      (∀ j oj, ops[j]? = some oj → j ≠ i → l.getD j true = false → (∀ e ∈ oj.after, Region.binds md e = true → e.on ≠ i) → oi.apart ops oj = true) →
      i ∈ Region.ready md ops l → YieldsIf P ops S oi v a → S w →
      wpAnyL P md ops Q S L f (l.setIfInBounds i true) (a.put oi.dst v) w → wpAnyL P md ops Q S L (f + 1) l a w
  | 0, l, a, w, _, hr, hy, hS, H => by
    refine ⟨fun h => (by rw [h] at hr; cases hr), fun j hj => ?_⟩
    by_cases hji : j = i
    · subst hji
      exact hy.wpOp hi hS ⟨fun _ => hS, H⟩
    · have := ready_mono hj hji
      rw [H.1] at this
      cases this
  | f + 1, l, a, w, hfree, hr, hy, hS, H => by
    refine ⟨fun h => (by rw [h] at hr; cases hr), fun j hj => ?_⟩
    by_cases hji : j = i
    · subst hji
      exact hy.wpOp hi hS ⟨fun _ => hS, H⟩
    · obtain ⟨hjun, oj, hoj, hall⟩ := mem_ready.1 hj
      have hiun : l.getD i true = false := (mem_ready.1 hr).1
      have h1 := H.2 j (ready_mono hj hji)
      have hnot : ∀ e ∈ oj.after, Region.binds md e = true → e.on ≠ i := fun e he hb heq => by
        have h2 := hall e he hb
        rw [heq] at h2
        rcases Nat.lt_or_ge i l.size with h' | h'
        · simp [h'] at hiun h2
          rw [hiun] at h2
          cases h2
        · simp [Array.getElem?_eq_none h'] at h2
      have hjL : j ≠ L := by
        rintro rfl
        rw [hL] at hoj
        cases hoj
      have h2 := wpOp_putIf hoj (hfree j oj hoj hji hjun hnot) (fun cs b => hsel i oi cs b hi) (fun cs b => hsel j oj cs b hoj) hQ hy h1
      refine wpOp_mono (fun a' w' h3 => ?_) h2
      obtain ⟨hy', hS', H'⟩ := h3
      rw [Array.setIfInBounds_comm _ _ (Ne.symm hji)] at H'
      refine ⟨fun _ => hS' hjL, S_first hi hL hsel hQ f _ a' w' (fun k ok hk hki hun hno => hfree k ok hk hki ?_ hno) (ready_mono hr (Ne.symm hji)) hy' (hS' hjL) H'⟩
      by_cases hjk : j = k
      · subst hjk; exact hjun
      · rw [getD_set_ne true hjk] at hun; exact hun
theorem S_take {i : Nat} {oi : Oper} {v : Value} {f : Nat} {l : Array Bool} {a : Act} {w : World} (hi : ops[i]? = some oi) (hL : ops[L]? = none) (hs : Region.noSelect ops = true) (hf : Region.free md ops l i = true) (hr : (Region.ready md ops l).contains i = true)
    (hQ : ∀ c a w, Q (.panic c) (a.put oi.dst v) w → Q (.panic c) a w) (hy : YieldsIf P ops S oi v a) (hS : S w)
    (h : wpAnyL P md ops Q S L f (l.setIfInBounds i true) (a.put oi.dst v) w) : wpAnyL P md ops Q S L (f + 1) l a w :=
  S_first hi hL (Region.noSelect_spec hs) hQ f l a w (Region.free_spec hi hf) (by simpa using hr) hy hS h
theorem L_done {f : Nat} {l : Array Bool} {a : Act} {w : World} (hr : Region.ready md ops l = []) (h : Q .normal a w) : wpAnyL P md ops Q S L f l a w := by
  cases f with
  | zero => exact ⟨hr, h⟩
  | succ f => exact ⟨fun _ => h, fun j hj => by rw [hr] at hj; cases hj⟩
/-- one alone may come up, S stands behind it -/
theorem L_one {j : Nat} {o : Oper} {f : Nat} {l : Array Bool} {a : Act} {w : World} (hr : Region.ready md ops l = [j]) (ho : ops[j]? = some o) (hw : Region.wanted o (yielded ops a.tmps) = true)
    (h : Oper.wp P o a w (fun a' w' => S w' ∧ wpAnyL P md ops Q S L f (l.setIfInBounds j true) a' w') Q) : wpAnyL P md ops Q S L (f + 1) l a w := by
  refine ⟨fun h0 => absurd (hr ▸ h0) (by simp), fun k hk => ?_⟩
  rw [hr] at hk
  obtain rfl := List.mem_singleton.1 hk
  refine wpOp_step ho (fun K hK => ?_)
  rw [if_pos hw]
  exact Oper.wp_mono (fun a' w' h' => hK a' w' ⟨fun _ => h'.1, h'.2⟩) h
/-- the last one alone may come up -/
theorem L_last {o : Oper} {f : Nat} {l : Array Bool} {a : Act} {w : World} (hr : Region.ready md ops l = [L]) (ho : ops[L]? = some o) (hw : Region.wanted o (yielded ops a.tmps) = true) (hd : Region.ready md ops (l.setIfInBounds L true) = [])
    (h : Oper.wp P o a w (fun a' w' => Q .normal a' w') Q) : wpAnyL P md ops Q S L (f + 1) l a w := by
  refine ⟨fun h0 => absurd (hr ▸ h0) (by simp), fun k hk => ?_⟩
  rw [hr] at hk
  obtain rfl := List.mem_singleton.1 hk
  refine wpOp_step ho (fun K hK => ?_)
  rw [if_pos hw]
  refine Oper.wp_mono (fun a' w' h' => hK a' w' ⟨fun hne => absurd rfl hne, ?_⟩) h
  cases f with
  | zero => exact ⟨hd, h'⟩
  | succ f => exact ⟨fun _ => h', fun j hj => by rw [hd] at hj; cases hj⟩
/-- the region begins -/
theorem any_beginL {id : Nat} {a : Act} {w : World} (S : World → Prop) (L : Nat) (hm : P.follows .mixedOrders = true) (h : wpAnyL P .any ops (NoPanic Q) S L ops.size (Array.replicate ops.size false) a w.drew) : (Code.region id ops true).wp P Q a w :=
  wp_region_noPanic (wp_region_any hm (any_of_L _ _ _ _ h))
end
end Go.Proofs.Ytgddenhnpjoabaa
