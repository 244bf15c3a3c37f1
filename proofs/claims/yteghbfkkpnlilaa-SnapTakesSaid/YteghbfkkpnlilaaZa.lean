/-
  Words for memory, plain: a slice value that reads as a list of cells, of bytes; a block that is known whole. No condition; nothing of the program is named.
-/
import Derived.Below
import Derived.Laws.OwnMore
import Derived.Deep.AppendLies
import Derived.Deep.Draws
import Derived.Laws.Rows
import Derived.Lib.Hide
import Derived.Maps.AppendAt
import Derived.RegionTactic
import Derived.OwnWalk
import Derived.Laws.BitsAllLaws
import Derived.WalkKit
import Derived.ProofKit
import Derived.Test.YteghbfkkpnlilaaRows
import Derived.Handy
import Derived.WalkLawsBesides
import Derived.WalkSpells
import Derived.MapKept
import Derived.Maps.Own
import Derived.Tactics
import Derived.Deep.MidRow
import Derived.Laws.BytesArg
import Derived.Outline
import Derived.Deep.RegionHeld3
import Derived.Great.FillDense
import Derived.Laws.Tables
import Derived.Great.BuildSlice
import Derived.KernelRfl
import Derived.Deep.WholeRow
import Derived.Lib.ConvBytes

namespace Go.Proofs.Yteghbfkkpnlilaa
open Go.RowKit
theorem block_of_add (a : Addr) (n : Nat) : (a.add n).block = a.block := by unfold Addr.add; split <;> rfl
theorem add_of_add (a : Addr) (i j : Nat) : (a.add i).add j = a.add (i + j) := by
  unfold Addr.add
  by_cases hi : i = 0 <;> by_cases hj : j = 0 <;> simp [hi, hj, Nat.add_assoc]
def Reads (w : World) (B size : Nat) (A : Option Addr) (n : Nat) (xs : List Value) : Prop :=
  xs.length = n * size ∧ (0 < n → ∃ ad, A = some ad ∧ ad.block < B ∧ ∀ j u, xs[j]? = some u → w.cell? (ad.add j) = some u)
section
variable {w w' : World} {B B' size n : Nat} {A : Option Addr} {xs : List Value}
theorem Reads.none_ : Reads w B size A 0 [] := ⟨by simp, fun h => absurd h (by omega)⟩
theorem Reads.at_ {k : Nat} (h : Reads w B 1 A n xs) (hk : k < n) : ∃ ad u, A = some ad ∧ ad.block < B ∧ xs[k]? = some u ∧ w.cell? (ad.add k) = some u := by
  obtain ⟨ad, e, hb, hc⟩ := h.2 (by omega)
  have hl : k < xs.length := by have := h.1; omega
  exact ⟨ad, xs[k], e, hb, List.getElem?_eq_getElem hl, hc k _ (List.getElem?_eq_getElem hl)⟩
theorem Reads.keep (h : Reads w B size A n xs) (hk : ∀ p : Addr, p.block < B → w'.cell? p = w.cell? p) : Reads w' B size A n xs :=
  ⟨h.1, fun hn => by
    obtain ⟨ad, e, hb, hc⟩ := h.2 hn
    exact ⟨ad, e, hb, fun j u hu => (hk _ (by rw [block_of_add]; exact hb)).trans (hc j u hu)⟩⟩
theorem Reads.more (h : Reads w B size A n xs) (hB : B ≤ B') : Reads w B' size A n xs :=
  ⟨h.1, fun hn => by
    obtain ⟨ad, e, hb, hc⟩ := h.2 hn
    exact ⟨ad, e, by omega, hc⟩⟩
theorem Reads.below (h : Reads w B size A n xs) (hb : Below B w w') : Reads w' B size A n xs := h.keep fun _ hp => hb.cell hp
theorem Reads.alloc (h : Reads w B size A n xs) (hB : B ≤ w.heap.size) (o : Obj) : Reads (w.alloc o) B size A n xs := h.keep fun p hp => World.cell?_alloc_lt w o p (by omega)
theorem Reads.setCell (h : Reads w B size A n xs) {p : Addr} (hB : B ≤ p.block) (u : Value) : Reads (w.setCell p u) B size A n xs :=
  h.keep fun q hq => World.cell?_setCell_other w p q u (fun e => by subst e; omega)
theorem Reads.cut (h : Reads w B size A n xs) {k cap : Nat} (hk : k ≤ n) (hc : n ≤ cap) :
    Reads w B size (if cap = k then A else A.map (·.add (k * size))) (n - k) (xs.drop (k * size)) := by
  refine ⟨by rw [List.length_drop, h.1, Nat.sub_mul], fun hn => ?_⟩
  obtain ⟨ad, rfl, hb, hcell⟩ := h.2 (by omega)
  rw [if_neg (by omega)]
  refine ⟨ad.add (k * size), rfl, by rw [block_of_add]; exact hb, fun j u hu => ?_⟩
  rw [add_of_add]
  exact hcell _ u (by rw [← hu, List.getElem?_drop])
theorem Reads.take (h : Reads w B 1 A n xs) {k : Nat} (hk : k ≤ n) : Reads w B 1 A k (xs.take k) := by
  refine ⟨by rw [List.length_take, h.1]; omega, fun hn => ?_⟩
  obtain ⟨ad, rfl, hb, hcell⟩ := h.2 (by omega)
  exact ⟨ad, rfl, hb, fun j u hu => hcell j u (by
    rw [List.getElem?_take] at hu
    split at hu
    · exact hu
    · cases hu)⟩
theorem Reads.of_own {base : Nat} {e : TypeId} {c : Nat} (h : w.ownsRow base e size (.slice A n c) n xs) : Reads w w.heap.size size A n xs := by
  refine ⟨h.1, fun hn => ?_⟩
  obtain ⟨g, cap, hv, _, hlt⟩ := h.form hn
  have hA : A = some ⟨g, 0, none⟩ := by injection hv
  subst hA
  exact ⟨_, rfl, hlt, h.cells (g := g) rfl⟩
end
def u8 (b : Nat) : Value := .int .u8 (b : Int)
def u8s (bs : List Nat) : List Value := bs.map u8
def Bytes (w : World) (B : Nat) (A : Option Addr) (n : Nat) (bs : List Nat) : Prop := Reads w B 1 A n (u8s bs) ∧ ∀ b ∈ bs, b < 256
section
variable {w w' : World} {B B' n : Nat} {A : Option Addr} {bs : List Nat}
theorem u8s_length (bs : List Nat) : (u8s bs).length = bs.length := by simp [u8s]
theorem Bytes.len (h : Bytes w B A n bs) : bs.length = n := by have := h.1.1; rw [u8s_length] at this; omega
theorem Bytes.at_ {k : Nat} (h : Bytes w B A n bs) (hk : k < n) : ∃ (ad : Addr) (b : Nat), A = some ad ∧ bs[k]? = some b ∧ b < 256 ∧ w.cell? (ad.add k) = some (.int .u8 (b : Int)) := by
  obtain ⟨ad, u, e, hb, hx, hc⟩ := h.1.at_ hk
  have hl : k < bs.length := by have := h.len; omega
  refine ⟨ad, bs[k], e, List.getElem?_eq_getElem hl, h.2 _ (List.getElem_mem hl), ?_⟩
  rw [hc, ← hx]
  simp [u8s, u8, hl]
theorem Bytes.keep (h : Bytes w B A n bs) (hk : ∀ p : Addr, p.block < B → w'.cell? p = w.cell? p) : Bytes w' B A n bs := ⟨h.1.keep hk, h.2⟩
theorem Bytes.more (h : Bytes w B A n bs) (hB : B ≤ B') : Bytes w B' A n bs := ⟨h.1.more hB, h.2⟩
theorem Bytes.below (h : Bytes w B A n bs) (hb : Below B w w') : Bytes w' B A n bs := ⟨h.1.below hb, h.2⟩
theorem Bytes.drew (h : Bytes w B A n bs) : Bytes w.drew B A n bs := h
theorem Bytes.take (h : Bytes w B A n bs) {k : Nat} (hk : k ≤ n) : Bytes w B A k (bs.take k) :=
  ⟨by have := h.1.take hk; rwa [u8s, ← List.map_take] at this, fun b hb => h.2 b (List.mem_of_mem_take hb)⟩
theorem Bytes.setCell (h : Bytes w B A n bs) {p : Addr} (hB : B ≤ p.block) (u : Value) : Bytes (w.setCell p u) B A n bs := ⟨h.1.setCell hB u, h.2⟩
end
theorem add_zero_off (g j : Nat) : (⟨g, 0, none⟩ : Addr).add j = ⟨g, j, none⟩ := by
  unfold Addr.add
  split
  · simp_all
  · simp
theorem Reads.new (w : World) (cs : List Value) (t : TypeId) (f : Nat × Nat) : Reads (w.alloc (.cells cs.toArray t f)) (w.heap.size + 1) 1 (some ⟨w.heap.size, 0, none⟩) cs.length cs := by
  refine ⟨by simp, fun _ => ⟨_, rfl, Nat.lt_succ_self _, fun j u hu => ?_⟩⟩
  rw [add_zero_off, cell_of_row _ _ _ _ _ _ (heap_alloc_new w _)]
  simpa using hu
theorem Reads.newN (w : World) (cs : List Value) (n size : Nat) (t : TypeId) (f : Nat × Nat) (hn : cs.length = n * size) : Reads (w.alloc (.cells cs.toArray t f)) (w.heap.size + 1) size (some ⟨w.heap.size, 0, none⟩) n cs :=
  ⟨hn, fun h0 => ⟨_, rfl, Nat.lt_succ_self _, fun j u hu => by
    rw [add_zero_off, cell_of_row _ _ _ _ _ _ (heap_alloc_new w _)]
    simpa using hu⟩⟩
theorem Bytes.new (w : World) (bs : List Nat) (t : TypeId) (f : Nat × Nat) (hb : ∀ b ∈ bs, b < 256) : Bytes (w.alloc (.cells (u8s bs).toArray t f)) (w.heap.size + 1) (some ⟨w.heap.size, 0, none⟩) bs.length bs :=
  ⟨by have := Reads.new w (u8s bs) t f; rwa [u8s_length] at this, hb⟩
theorem oneCell_u8s (bs : List Nat) : ∀ u ∈ u8s bs, u.oneCell' = true := by
  intro u hu
  obtain ⟨b, _, rfl⟩ := List.mem_map.1 hu
  rfl
theorem below_drewN {B : Nat} {a w : World} (h : Below B a w) (n : Nat) : Below B a (w.drewN n) := ⟨h.os, h.tape, h.output, h.size, h.block⟩
/-! ### a block known whole -/
def Blk (w : World) (g : Nat) (t : TypeId) (cs : Array Value) : Prop := w.heap[g]? = some (.cells cs t (0, 0))
section
variable {w w' : World} {g : Nat} {t : TypeId} {cs : Array Value}
theorem Blk.lt (h : Blk w g t cs) : g < w.heap.size := by
  rcases Nat.lt_or_ge g w.heap.size with hlt | hge
  · exact hlt
  · unfold Blk at h; rw [Array.getElem?_eq_none hge] at h; cases h
theorem Blk.cell (h : Blk w g t cs) (i : Nat) : w.cell? ⟨g, i, none⟩ = cs[i]? := cell_of_row w g i cs t (0, 0) h
theorem Blk.frozen (h : Blk w g t cs) (i : Nat) : w.frozen? ⟨g, i, none⟩ = false := by
  unfold Blk at h
  simp [World.frozen?, h]
theorem Blk.new (w : World) (t : TypeId) (cs : Array Value) : Blk (w.alloc (.cells cs t)) w.heap.size t cs := heap_alloc_new w _
theorem Blk.drew (h : Blk w g t cs) : Blk w.drew g t cs := h
theorem Blk.alloc (h : Blk w g t cs) (o : Obj) : Blk (w.alloc o) g t cs := (Below.heap_alloc w o g h.lt).trans h
theorem Blk.set_ (h : Blk w g t cs) (i : Nat) (u : Value) : Blk (w.setCell ⟨g, i, none⟩ u) g t (cs.setIfInBounds i u) := by
  unfold Blk at h ⊢
  simp [World.setCell, Array.getElem?_modify, h]
theorem Blk.far (h : Blk w g t cs) {p : Addr} (hp : g ≠ p.block) (u : Value) : Blk (w.setCell p u) g t cs := (Below.heap_setCell w p u g hp).trans h
theorem Blk.below {B : Nat} (h : Blk w g t cs) (hb : Below B w w') (hg : g < B) : Blk w' g t cs := (hb.block g hg).trans h
theorem Blk.grown {row : Option Nat} (h : Blk w g t cs) (hb : w.grownBy w' row) (hg : some g ≠ row) : Blk w' g t cs := (hb.block g h.lt hg).trans h
theorem Blk.ne_ {g' : Nat} {t' : TypeId} {cs' : Array Value} (h : Blk w g t cs) (h' : Blk w g' t' cs') (hne : t ≠ t') : g ≠ g' := by
  rintro rfl
  unfold Blk at h h'
  rw [h] at h'
  injection h' with h'
  injection h' with _ ht
  exact hne ht
theorem own_blk_ne {base : Nat} {e : TypeId} {size n : Nat} {v : Value} {xs : List Value} (h : w.ownsRow base e size v n xs) (hg : Blk w g t cs) (hne : e ≠ t) : v.ownBlock ≠ some g := by
  rcases h.2 with ⟨rfl, _⟩ | ⟨g', cap, cur, rfl, _, hh, _⟩
  · simp [Value.ownBlock]
  · intro he
    have : g' = g := by simpa [Value.ownBlock] using he
    subst this
    exact Blk.ne_ (t := e) hh hg hne rfl
end
/-! ### append onto a row of the call's own -/
section
variable {P : Program} (w : World)
theorem run_append_of_nil (base : Nat) (t ty e : TypeId) (i : TypeInfo) (size : Nat) (ht : P.underlying t = some (.slice e)) (hi : P.info? e = some i)
    (v : Value) (n : Nat) (xs : List Value) (hown : w.ownsRow base e size v n xs) (c : Nat) : (Builtin.append_ #[t, t] ty #[v, .slice none 0 c]).run P w = .ok v w := by
  rcases hown.2 with ⟨rfl, rfl⟩ | ⟨g, cap, cur, rfl, _, _, hnc, _⟩
  · simp [Builtin.append_, run_underlying ht, sizeOf, typeInfo, hi, Builtin.lenOf, Builtin.firstCells]
  · simp [Builtin.append_, run_underlying ht, sizeOf, typeInfo, hi, Builtin.lenOf, Builtin.firstCells, hnc, storeCells]
theorem run_append_any (base : Nat) (t ty e : TypeId) (i : TypeInfo) (z : Value) (size bytes : Nat) (ht : P.underlying t = some (.slice e)) (hi : P.info? e = some i) (hz : i.zero = some z)
    (hsize : i.size = size) (hby : i.bytes = bytes) (hzs : z.cells.size = size) (hsz : 0 < size)
    (v : Value) (n : Nat) (xs : List Value) (hown : w.ownsRow base e size v n xs)
    (B : Nat) (A : Option Addr) (m c : Nat) (news : List Value) (hr : Reads w B size A m news) (h1 : ∀ u ∈ news, u.oneCell' = true)
    (h63 : n + m ≤ maxLen) (hbytes : (n + m) * bytes ≤ 140737488355328) (hbase : base ≤ w.heap.size) :
    ∃ v' w', (Builtin.append_ #[t, t] ty #[v, .slice A m c]).run P w = .ok v' w' ∧ w'.ownsRow base e size v' (n + m) (xs ++ news) ∧ w.grownBy w' v.ownBlock ∧
      (v'.ownBlock = v.ownBlock ∨ v'.ownBlock = some w.heap.size) := by
  rcases A with _ | ad
  · have hm : m = 0 := by
      rcases Nat.eq_zero_or_pos m with h0 | h0
      · exact h0
      · obtain ⟨ad, h, _⟩ := hr.2 h0
        cases h
    subst hm
    have hn : news = [] := List.eq_nil_of_length_eq_zero (by simpa using hr.1)
    subst hn
    exact ⟨v, w, run_append_of_nil w base t ty e i size ht hi v n xs hown c, by simpa using hown, World.grownBy.refl w _, .inl rfl⟩
  · have hcells : ∀ j u, news[j]? = some u → w.cell? (ad.add j) = some u := by
      intro j u hu
      rcases Nat.eq_zero_or_pos m with h0 | h0
      · subst h0
        have hn : news = [] := List.eq_nil_of_length_eq_zero (by simpa using hr.1)
        subst hn
        simp at hu
      · obtain ⟨ad', h, _, hc⟩ := hr.2 h0
        injection h with h
        subst h
        exact hc j u hu
    obtain ⟨v', w', hrun, h2, h3, _, h5⟩ := run_append_own_at (P := P) w base t ty e i z size bytes ht hi hz hsize hby hzs hsz v n xs hown ad m c news hr.1 hcells h1 h63 hbytes hbase
    exact ⟨v', w', hrun, h2, h3, h5⟩
theorem wp_append_any {o : Oper} {a : Act} {K : Act → World → Prop} {Q : Exit → Act → World → Prop} (s x : Operand) (t : TypeId)
    (ho : o.op = .call { callee := .builtin .append, args := #[s, x], argTypes := #[t, t] })
    (base : Nat) (e : TypeId) (i : TypeInfo) (z : Value) (size bytes : Nat) (ht : P.underlying t = some (.slice e)) (hi : P.info? e = some i) (hz : i.zero = some z)
    (hsize : i.size = size) (hby : i.bytes = bytes) (hzs : z.cells.size = size) (hsz : 0 < size)
    (v : Value) (n : Nat) (xs : List Value) (hs : a.eval s = v) (hown : w.ownsRow base e size v n xs)
    (B : Nat) (A : Option Addr) (m c : Nat) (news : List Value) (hx : a.eval x = .slice A m c) (hr : Reads w B size A m news) (h1 : ∀ u ∈ news, u.oneCell' = true)
    (h63 : n + m ≤ maxLen) (hbytes : (n + m) * bytes ≤ 140737488355328) (hbase : base ≤ w.heap.size)
    (h : ∀ v' w', w'.ownsRow base e size v' (n + m) (xs ++ news) → w.grownBy w' v.ownBlock → (v'.ownBlock = v.ownBlock ∨ v'.ownBlock = some w.heap.size) → K (a.put o.dst v') w') : o.wp P a w K Q := by
  obtain ⟨v', w', hrun, h2, h3, h4⟩ := run_append_any (P := P) w base t o.type e i z size bytes ht hi hz hsize hby hzs hsz v n xs hown B A m c news hr h1 h63 hbytes hbase
  unfold Oper.wp execOp
  simp only [ho, resolve, invoke, builtin, Sem.run_bind, Sem.run_pure, Result.andThen_ok, List.map_toArray, List.map_cons, List.map_nil, hs, hx, hrun]
  exact h v' w' h2 h3 h4
theorem wpList_append_any {ops : Array Oper} {rest : List Oper} {o : Oper} {a : Act} {Q : Exit → Act → World → Prop} (hgd : o.guard = none) (s x : Operand) (t : TypeId)
    (ho : o.op = .call { callee := .builtin .append, args := #[s, x], argTypes := #[t, t] })
    (base : Nat) (e : TypeId) (i : TypeInfo) (z : Value) (size bytes : Nat) (ht : P.underlying t = some (.slice e)) (hi : P.info? e = some i) (hz : i.zero = some z)
    (hsize : i.size = size) (hby : i.bytes = bytes) (hzs : z.cells.size = size) (hsz : 0 < size)
    (v : Value) (n : Nat) (xs : List Value) (hs : a.eval s = v) (hown : w.ownsRow base e size v n xs)
    (B : Nat) (A : Option Addr) (m c : Nat) (news : List Value) (hx : a.eval x = .slice A m c) (hr : Reads w B size A m news) (h1 : ∀ u ∈ news, u.oneCell' = true)
    (h63 : n + m ≤ maxLen) (hbytes : (n + m) * bytes ≤ 140737488355328) (hbase : base ≤ w.heap.size)
    (h : ∀ v' w', w'.ownsRow base e size v' (n + m) (xs ++ news) → w.grownBy w' v.ownBlock → (v'.ownBlock = v.ownBlock ∨ v'.ownBlock = some w.heap.size) → wpList P ops Q rest (a.put o.dst v') w') : wpList P ops Q (o :: rest) a w :=
  wpList_plain hgd fun _ hK => wp_append_any w s x t ho base e i z size bytes ht hi hz hsize hby hzs hsz v n xs hs hown B A m c news hx hr h1 h63 hbytes hbase fun v' w' h2 h3 h4 => hK _ _ (h v' w' h2 h3 h4)
end
end Go.Proofs.Yteghbfkkpnlilaa

/-
  Objects and what they were at snapshots, as data: which are good, what they are at a snapshot, what a change makes of them. No condition; nothing of the program is named.
-/
namespace Go.Proofs.Yteghbfkkpnlilaa
set_option linter.unusedSimpArgs false
set_option linter.unusedVariables false
structure ClV where
  sn : List Int
  dt : List Nat
structure OV where
  th : Bool
  dt : List Nat
  sq : Int
  cl : List ClV
structure CxV where
  sq : Int
  sn : List Int
def OV.zero : OV := ⟨false, [], 0, []⟩
def riseB : Int → List Int → Bool
  | _, [] => true
  | l, s :: r => decide (l < s) && riseB s r
def topI : Int → List Int → Int
  | l, [] => l
  | _, s :: r => topI s r
def snAll (cl : List ClV) : List Int := cl.flatMap ClV.sn
structure ClG (c : ClV) : Prop where
  ne : c.sn ≠ []
  dt : c.dt.length ≤ 256
structure Good (o : OV) : Prop where
  sq : 0 ≤ o.sq
  dt : o.dt.length ≤ 256
  th : o.th = false → o.dt = []
  cn : o.cl.length ≤ 16
  cl : ∀ c ∈ o.cl, ClG c
  up : (snAll o.cl).Pairwise (· < ·)
  lim : ∀ s ∈ snAll o.cl, 0 < s ∧ s ≤ o.sq
structure CxG (c : CxV) : Prop where
  sq : 0 ≤ c.sq
  sn : c.sn.length ≤ 16
  up : c.sn.reverse.Pairwise (· < ·)
  lim : ∀ s ∈ c.sn, 0 < s ∧ s ≤ c.sq
theorem riseB_iff : ∀ (L : List Int) (l : Int), riseB l L = true ↔ L.Pairwise (· < ·) ∧ ∀ s ∈ L, l < s
  | [], l => by simp [riseB]
  | a :: L, l => by
    rw [riseB, Bool.and_eq_true, decide_eq_true_iff, riseB_iff L a, List.pairwise_cons]
    constructor
    · rintro ⟨h1, h2, h3⟩
      refine ⟨⟨fun b hb => h3 b hb, h2⟩, fun s hs => ?_⟩
      rcases List.mem_cons.1 hs with rfl | hs
      · exact h1
      · have := h3 s hs; omega
    · rintro ⟨⟨h1, h2⟩, h3⟩
      exact ⟨h3 a (by simp), h2, h1⟩
theorem riseB_app : ∀ (L M : List Int) (l : Int), riseB l (L ++ M) = (riseB l L && riseB (topI l L) M)
  | [], M, l => by simp [riseB, topI]
  | a :: L, M, l => by rw [List.cons_append, riseB, riseB, topI, riseB_app L M a, Bool.and_assoc]
theorem topI_app : ∀ (L M : List Int) (l : Int), topI l (L ++ M) = topI (topI l L) M
  | [], M, l => rfl
  | a :: L, M, l => by rw [List.cons_append, topI, topI, topI_app L M a]
theorem topI_ge : ∀ (L : List Int) (l : Int), riseB l L = true → l ≤ topI l L ∧ ∀ s ∈ L, s ≤ topI l L
  | [], l, _ => by simp [topI]
  | a :: L, l, h => by
    rw [riseB, Bool.and_eq_true, decide_eq_true_iff] at h
    have h2 := topI_ge L a h.2
    rw [topI]
    refine ⟨by omega, fun s hs => ?_⟩
    rcases List.mem_cons.1 hs with rfl | hs
    · exact h2.1
    · exact h2.2 s hs
theorem topI_mem : ∀ (L : List Int) (l : Int), topI l L = l ∨ topI l L ∈ L
  | [], l => .inl rfl
  | a :: L, l => by
    rw [topI]
    rcases topI_mem L a with h | h
    · right; rw [h]; simp
    · right; simp [h]
theorem topI_le {L : List Int} {l q : Int} (hl : l ≤ q) (h : ∀ s ∈ L, s ≤ q) : topI l L ≤ q := by
  rcases topI_mem L l with e | e
  · omega
  · exact h _ e
theorem topI_iff {L : List Int} {q : Int} (hq : 0 ≤ q) (hr : riseB 0 L = true) : topI 0 L ≤ q ↔ ∀ s ∈ L, 0 < s ∧ s ≤ q :=
  ⟨fun h s hs => ⟨((riseB_iff L 0).1 hr).2 s hs, by have := (topI_ge L 0 hr).2 s hs; omega⟩, fun h => topI_le hq fun s hs => (h s hs).2⟩
theorem good_iff (o : OV) : Good o ↔ (0 ≤ o.sq ∧ o.dt.length ≤ 256 ∧ (o.th = false → o.dt = []) ∧ o.cl.length ≤ 16) ∧ (∀ c ∈ o.cl, ClG c) ∧ riseB 0 (snAll o.cl) = true ∧ topI 0 (snAll o.cl) ≤ o.sq := by
  constructor
  · intro h
    have hr : riseB 0 (snAll o.cl) = true := (riseB_iff _ _).2 ⟨h.up, fun s hs => (h.lim s hs).1⟩
    exact ⟨⟨h.sq, h.dt, h.th, h.cn⟩, h.cl, hr, (topI_iff h.sq hr).2 h.lim⟩
  · rintro ⟨⟨h1, h2, h3, h4⟩, h5, h6, h7⟩
    exact ⟨h1, h2, h3, h4, h5, ((riseB_iff _ _).1 h6).1, (topI_iff h1 h6).1 h7⟩
/-! ### what an object is at a snapshot -/
def atC (cl : List ClV) (s : Int) : Option (List Nat) := (cl.find? fun c => c.sn.contains s).map ClV.dt
def headAt (o : OV) (s : Int) : Option (List Nat) := if o.th = true ∧ ¬ (0 < s ∧ s ≤ o.sq) then some o.dt else none
def atO (o : OV) (s : Int) : Option (List Nat) := match atC o.cl s with | some d => some d | none => headAt o s
theorem atC_none {cl : List ClV} {s : Int} : atC cl s = none ↔ s ∉ snAll cl := by
  unfold atC snAll
  rw [Option.map_eq_none_iff, List.find?_eq_none]
  constructor
  · intro h hs
    obtain ⟨c, hc, hs⟩ := List.mem_flatMap.1 hs
    exact h c hc (by simpa using hs)
  · intro h c hc hs
    exact h (List.mem_flatMap.2 ⟨c, hc, by simpa using hs⟩)
theorem atC_app (a b : List ClV) (s : Int) : atC (a ++ b) s = (match atC a s with | some d => some d | none => atC b s) := by
  unfold atC
  rw [List.find?_append]
  cases a.find? fun c => c.sn.contains s <;> simp
/-! ### what is done before it changes -/
def freshI (q : Int) (c : CxV) : List Int := c.sn.reverse.filter fun s => decide (q < s)
def newCl (o : OV) (c : CxV) : List ClV := if o.th = true ∧ freshI o.sq c ≠ [] then [⟨freshI o.sq c, o.dt⟩] else []
def seeO (o : OV) (c : CxV) : OV := ⟨o.th, o.dt, c.sq, o.cl ++ newCl o c⟩
theorem fresh_mem {q s : Int} {c : CxV} : s ∈ freshI q c ↔ s ∈ c.sn ∧ q < s := by simp [freshI]
def withHead (o : OV) (h : Option (List Nat)) : OV := match h with | some d => ⟨true, d, o.sq, o.cl⟩ | none => ⟨false, [], o.sq, o.cl⟩
/-! ### a snapshot forgotten -/
/-! ### how many clones -/
end Go.Proofs.Yteghbfkkpnlilaa

/-
  Numbers as eight bytes, the lowest first, and back; a reader's bytes that are left: plain words. No condition; nothing of the program is named.
-/
namespace Go.Proofs.Yteghbfkkpnlilaa
open Go.RowKit
def le : Nat → Nat → List Nat
  | 0, _ => []
  | k + 1, u => u % 256 :: le k (u / 256)
def un : List Nat → Nat
  | [] => 0
  | b :: l => b + 256 * un l
theorem le_len : ∀ k u, (le k u).length = k
  | 0, _ => rfl
  | k + 1, u => by simp [le, le_len k]
theorem le_lt : ∀ k u b, b ∈ le k u → b < 256
  | 0, _, b, h => by simp [le] at h
  | k + 1, u, b, h => by
    simp only [le, List.mem_cons] at h
    rcases h with rfl | h
    · omega
    · exact le_lt k _ b h
theorem un_le : ∀ k u, u < 256 ^ k → un (le k u) = u
  | 0, u, h => by simp at h; simp [le, un, h]
  | k + 1, u, h => by
    rw [le, un, un_le k (u / 256) (by rw [Nat.pow_succ] at h; omega)]
    omega
theorem un_lt : ∀ l : List Nat, (∀ b ∈ l, b < 256) → un l < 256 ^ l.length
  | [], _ => by simp [un]
  | b :: l, h => by
    have h1 := un_lt l (fun c hc => h c (by simp [hc]))
    have h2 := h b (by simp)
    rw [un, List.length_cons, Nat.pow_succ]
    omega
theorem le_snoc : ∀ k u, le (k + 1) u = le k u ++ [u / 256 ^ k % 256]
  | 0, u => by simp [le]
  | k + 1, u => by
    rw [le, le_snoc k, le, List.cons_append, Nat.div_div_eq_div_mul, Nat.pow_succ, Nat.mul_comm 256]
def nat64 (n : Int) : Nat := (n % 18446744073709551616).toNat
theorem nat64_lt (n : Int) : nat64 n < 18446744073709551616 := by unfold nat64; omega
def numB (n : Int) : List Nat := le 8 (nat64 n)
theorem numB_len (n : Int) : (numB n).length = 8 := le_len _ _
theorem numB_lt (n : Int) : ∀ b ∈ numB n, b < 256 := fun b h => le_lt _ _ b h
def numOf (l : List Nat) : Int := wrap64 (un l : Int)
theorem wrap_nat64 (n : Int) (h1 : -9223372036854775808 ≤ n) (h2 : n ≤ 9223372036854775807) : wrap64 (nat64 n : Int) = n := by
  unfold nat64 wrap64
  omega
theorem numOf_numB (n : Int) (h1 : -9223372036854775808 ≤ n) (h2 : n ≤ 9223372036854775807) : numOf (numB n) = n := by
  unfold numOf numB
  rw [un_le _ _ (by have := nat64_lt n; simpa using this)]
  exact wrap_nat64 n h1 h2
theorem numOf_range (l : List Nat) : -9223372036854775808 ≤ numOf l ∧ numOf l ≤ 9223372036854775807 := by
  unfold numOf wrap64
  omega
theorem wrap_mod (q : Nat) (h : q < 18446744073709551616) : wrap64 (q : Int) % 18446744073709551616 = (q : Int) := by
  unfold wrap64
  omega
theorem or64 (x y : Nat) (a b : Int) (ha : a % 18446744073709551616 = (x : Int)) (hb : b % 18446744073709551616 = (y : Int)) : bits .or .i64 a b = wrap64 ((x ||| y : Nat) : Int) := by
  have ea : (BitVec.ofInt 64 a).toNat = x := by
    rw [BitVec.toNat_ofInt]
    have : (a % ((2 ^ 64 : Nat) : Int)) = (x : Int) := ha
    rw [this, Int.toNat_natCast]
  have eb : (BitVec.ofInt 64 b).toNat = y := by
    rw [BitVec.toNat_ofInt]
    have : (b % ((2 ^ 64 : Nat) : Int)) = (y : Int) := hb
    rw [this, Int.toNat_natCast]
  show IntKind.i64.wrap ((BitVec.ofInt 64 a ||| BitVec.ofInt 64 b).toNat : Int) = _
  rw [BitVec.toNat_or, ea, eb, IntKind.wrap_i64, wrap64]
theorem or_sum (x y : Nat) (a b : Int) (hxy : x ||| y = x + y) (hlt : x + y < 18446744073709551616) (ha : a % 18446744073709551616 = (x : Int)) (hb : b % 18446744073709551616 = (y : Int)) :
    bits .or .i64 a b % 18446744073709551616 = ((x + y : Nat) : Int) ∧ bits .or .i64 a b = wrap64 ((x + y : Nat) : Int) := by
  have h2 := or64 x y a b ha hb
  rw [hxy] at h2
  exact ⟨by rw [h2]; exact wrap_mod _ hlt, h2⟩
theorem or_step (i x c p : Nat) (a b : Int) (hp : p = 2 ^ i) (hx : x < p) (hc : c < 256) (hi : i ≤ 56) (ha : a % 18446744073709551616 = (x : Int)) (hb : b % 18446744073709551616 = ((c * p : Nat) : Int)) :
    bits .or .i64 a b % 18446744073709551616 = ((x + c * p : Nat) : Int) ∧ bits .or .i64 a b = wrap64 ((x + c * p : Nat) : Int) := by
  have hp56 : p ≤ 72057594037927936 := by rw [hp, show (72057594037927936 : Nat) = 2 ^ 56 by decide]; exact Nat.pow_le_pow_right (by omega) hi
  have hj : c * p ||| x = c * p + x := nat_join i _ _ (by rw [hp]; simp) (by rw [← hp]; exact hx)
  have h2 : c * p ≤ 255 * p := Nat.mul_le_mul_right _ (by omega)
  exact or_sum x (c * p) a b (by rw [Nat.or_comm, hj, Nat.add_comm]) (by omega) ha hb
theorem numOf_eq (l : List Nat) (q : Nat) (h : un l = q) : wrap64 (q : Int) = numOf l := by rw [numOf, h]
theorem byte_mod0 (c : Nat) (h : c < 256) : (c : Int) % 18446744073709551616 = ((c * 1 : Nat) : Int) := by omega
theorem byte_mod1 (c : Nat) (h : c < 256) : ((c : Int) * 256) % 18446744073709551616 = ((c * 256 : Nat) : Int) := by omega
theorem byte_mod2 (c : Nat) (h : c < 256) : ((c : Int) * 65536) % 18446744073709551616 = ((c * 65536 : Nat) : Int) := by omega
theorem byte_mod3 (c : Nat) (h : c < 256) : ((c : Int) * 16777216) % 18446744073709551616 = ((c * 16777216 : Nat) : Int) := by omega
theorem byte_mod4 (c : Nat) (h : c < 256) : ((c : Int) * 4294967296) % 18446744073709551616 = ((c * 4294967296 : Nat) : Int) := by omega
theorem byte_mod5 (c : Nat) (h : c < 256) : ((c : Int) * 1099511627776) % 18446744073709551616 = ((c * 1099511627776 : Nat) : Int) := by omega
theorem byte_mod6 (c : Nat) (h : c < 256) : ((c : Int) * 281474976710656) % 18446744073709551616 = ((c * 281474976710656 : Nat) : Int) := by omega
theorem byte_mod7 (c : Nat) (h : c < 256) : (wrap64 ((c : Int) * 72057594037927936)) % 18446744073709551616 = ((c * 72057594037927936 : Nat) : Int) := by unfold wrap64; omega
theorem byte_lt1 (b0 : Nat) (h0 : b0 < 256) : 0 + b0 * 1 < 256 := by omega
theorem byte_lt2 (b0 b1 : Nat) (h0 : b0 < 256) (h1 : b1 < 256) : 0 + b0 * 1 + b1 * 256 < 65536 := by omega
theorem byte_lt3 (b0 b1 b2 : Nat) (h0 : b0 < 256) (h1 : b1 < 256) (h2 : b2 < 256) : 0 + b0 * 1 + b1 * 256 + b2 * 65536 < 16777216 := by omega
theorem byte_lt4 (b0 b1 b2 b3 : Nat) (h0 : b0 < 256) (h1 : b1 < 256) (h2 : b2 < 256) (h3 : b3 < 256) : 0 + b0 * 1 + b1 * 256 + b2 * 65536 + b3 * 16777216 < 4294967296 := by omega
theorem byte_lt5 (b0 b1 b2 b3 b4 : Nat) (h0 : b0 < 256) (h1 : b1 < 256) (h2 : b2 < 256) (h3 : b3 < 256) (h4 : b4 < 256) : 0 + b0 * 1 + b1 * 256 + b2 * 65536 + b3 * 16777216 + b4 * 4294967296 < 1099511627776 := by omega
theorem byte_lt6 (b0 b1 b2 b3 b4 b5 : Nat) (h0 : b0 < 256) (h1 : b1 < 256) (h2 : b2 < 256) (h3 : b3 < 256) (h4 : b4 < 256) (h5 : b5 < 256) : 0 + b0 * 1 + b1 * 256 + b2 * 65536 + b3 * 16777216 + b4 * 4294967296 + b5 * 1099511627776 < 281474976710656 := by omega
theorem byte_lt7 (b0 b1 b2 b3 b4 b5 b6 : Nat) (h0 : b0 < 256) (h1 : b1 < 256) (h2 : b2 < 256) (h3 : b3 < 256) (h4 : b4 < 256) (h5 : b5 < 256) (h6 : b6 < 256) : 0 + b0 * 1 + b1 * 256 + b2 * 65536 + b3 * 16777216 + b4 * 4294967296 + b5 * 1099511627776 + b6 * 281474976710656 < 72057594037927936 := by omega
theorem un_eight (b0 b1 b2 b3 b4 b5 b6 b7 : Nat) : un [b0, b1, b2, b3, b4, b5, b6, b7] = 0 + b0 * 1 + b1 * 256 + b2 * 65536 + b3 * 16777216 + b4 * 4294967296 + b5 * 1099511627776 + b6 * 281474976710656 + b7 * 72057594037927936 := by simp only [un]; omega
theorem or_eight (b0 b1 b2 b3 b4 b5 b6 b7 : Nat) (h0 : b0 < 256) (h1 : b1 < 256) (h2 : b2 < 256) (h3 : b3 < 256) (h4 : b4 < 256) (h5 : b5 < 256) (h6 : b6 < 256) (h7 : b7 < 256) :
    bits .or .i64 (bits .or .i64 (bits .or .i64 (bits .or .i64 (bits .or .i64 (bits .or .i64 (bits .or .i64 (bits .or .i64 0 (b0 : Int)) ((b1 : Int) * 256)) ((b2 : Int) * 65536)) ((b3 : Int) * 16777216)) ((b4 : Int) * 4294967296)) ((b5 : Int) * 1099511627776)) ((b6 : Int) * 281474976710656)) (wrap64 ((b7 : Int) * 72057594037927936)) = numOf [b0, b1, b2, b3, b4, b5, b6, b7] := by
  have z0 : (0 : Int) % 18446744073709551616 = ((0 : Nat) : Int) := by omega
  have s0 := or_step 0 _ b0 1 _ _ (by decide) (by decide) h0 (by decide) z0 (byte_mod0 b0 h0)
  have s1 := or_step 8 _ b1 256 _ _ (by decide) (byte_lt1 b0 h0) h1 (by decide) s0.1 (byte_mod1 b1 h1)
  have s2 := or_step 16 _ b2 65536 _ _ (by decide) (byte_lt2 b0 b1 h0 h1) h2 (by decide) s1.1 (byte_mod2 b2 h2)
  have s3 := or_step 24 _ b3 16777216 _ _ (by decide) (byte_lt3 b0 b1 b2 h0 h1 h2) h3 (by decide) s2.1 (byte_mod3 b3 h3)
  have s4 := or_step 32 _ b4 4294967296 _ _ (by decide) (byte_lt4 b0 b1 b2 b3 h0 h1 h2 h3) h4 (by decide) s3.1 (byte_mod4 b4 h4)
  have s5 := or_step 40 _ b5 1099511627776 _ _ (by decide) (byte_lt5 b0 b1 b2 b3 b4 h0 h1 h2 h3 h4) h5 (by decide) s4.1 (byte_mod5 b5 h5)
  have s6 := or_step 48 _ b6 281474976710656 _ _ (by decide) (byte_lt6 b0 b1 b2 b3 b4 b5 h0 h1 h2 h3 h4 h5) h6 (by decide) s5.1 (byte_mod6 b6 h6)
  have s7 := or_step 56 _ b7 72057594037927936 _ _ (by decide) (byte_lt7 b0 b1 b2 b3 b4 b5 b6 h0 h1 h2 h3 h4 h5 h6) h7 (by decide) s6.1 (byte_mod7 b7 h7)
  exact s7.2.trans (numOf_eq _ _ (un_eight b0 b1 b2 b3 b4 b5 b6 b7))
structure RD where
  bs : List Nat
  bad : Bool
def RD.spoilt : RD := ⟨[], true⟩
def RD.fits (s : RD) (n : Int) : Bool := !s.bad && decide (0 ≤ n) && decide (n ≤ s.bs.length)
def RD.take (s : RD) (n : Int) : RD := if s.fits n then ⟨s.bs.drop n.toNat, false⟩ else .spoilt
def RD.got (s : RD) (n : Int) : List Nat := if s.fits n then s.bs.take n.toNat else []
def RD.Good (s : RD) : Prop := (s.bad = true → s.bs = []) ∧ ∀ b ∈ s.bs, b < 256
theorem RD.take_good {s : RD} (h : s.Good) (n : Int) : (s.take n).Good := by
  unfold RD.take
  split
  · exact ⟨fun e => (by cases e), fun b hb => h.2 b (List.mem_of_mem_drop hb)⟩
  · exact ⟨fun _ => rfl, fun b hb => by cases hb⟩
theorem RD.spoilt_good : RD.spoilt.Good := ⟨fun _ => rfl, fun b hb => by cases hb⟩
theorem RD.got_lt {s : RD} (h : s.Good) (n : Int) : ∀ b ∈ s.got n, b < 256 := by
  unfold RD.got
  split
  · exact fun b hb => h.2 b (List.mem_of_mem_take hb)
  · exact fun b hb => by cases hb
def RD.byte (s : RD) : Nat := (s.got 1).headD 0
def RD.num (s : RD) : Int := numOf (s.got 8)
def RD.flagTo (s : RD) : RD := if 1 < s.byte then .spoilt else s.take 1
def RD.flag (s : RD) : Bool := s.byte == 1
def RD.bytesTo (s : RD) : RD := (s.take 8).take s.num
def RD.bytes (s : RD) : List Nat := (s.take 8).got s.num
def RD.many (s : RD) : Bool := decide (0 ≤ s.num) && decide (s.num ≤ ((s.take 8).bs.length / 8 : Nat)) && !(s.take 8).bad
def RD.run : Nat → RD → RD
  | 0, s => s
  | k + 1, s => (RD.run k s).take 8
def RD.rows (s : RD) : Nat → List Int
  | 0 => []
  | k + 1 => RD.rows s k ++ [(RD.run k s).num]
def RD.numsTo (s : RD) : RD := if s.many then RD.run s.num.toNat (s.take 8) else .spoilt
def RD.nums (s : RD) : List Int := if s.many then RD.rows (s.take 8) s.num.toNat else []
theorem RD.run_good {s : RD} (h : s.Good) : ∀ k, (RD.run k s).Good
  | 0 => h
  | k + 1 => RD.take_good (RD.run_good h k) 8
theorem RD.rows_len (s : RD) : ∀ k, (RD.rows s k).length = k
  | 0 => rfl
  | k + 1 => by simp [RD.rows, RD.rows_len s k]
theorem RD.byte_lt {s : RD} (h : s.Good) : s.byte < 256 := by
  unfold RD.byte
  have := RD.got_lt h 1
  cases hg : s.got 1 with
  | nil => simp
  | cons b l => rw [hg] at this; exact this b (by simp)
end Go.Proofs.Yteghbfkkpnlilaa

/-
  An error's number. Conditions: the errors are the document's.
-/
namespace Go.Proofs.Yteghbfkkpnlilaa
open Go.RowKit
def errV : Nat → Value
  | 0 => .nilIface
  | k => .iface 58 (.int .i64 k)
theorem num_any (k : Nat) (w : World) : Calls Try.prog 16 #[errV k] w fun e w' => e = .returned (.int .i64 k) ∧ w = w' := by
  cases k with
  | zero =>
    simp only [errV]
    go_enter Try.func16, Try.ntmps16
    go_wp2
    go_ret
    exact ⟨rfl, rfl⟩
  | succ k =>
    simp only [errV]
    have hta : ∀ (n : Int) (w : World), (Instr.typeAssert (.iface 58 (.int .i64 n)) 40 58 true).run Try.prog w = .ok (.tuple #[.int .i64 n, .bool true]) w := fun n w => by kernel_rfl
    have hne : (((k : Int) + 1) == 0) = false := by simp; omega
    have hne2 : (((k : Int) + 1) != 0) = true := by simp; omega
    go_enter Try.func16, Try.ntmps16
    go_wp2
    go_ret
    exact ⟨rfl, rfl⟩
theorem is_any (k j : Nat) (w : World) : Calls Try.prog 27 #[errV k, .int .i64 j] w fun e w' => e = .returned (.bool (k == j)) ∧ w = w' := by
  go_enter Try.func27, Try.ntmps27
  go_wp2_with fail
  refine (num_any k w).mono ?_
  rintro e w' ⟨rfl, rfl⟩
  go_wp2
  go_ret
  exact ⟨by show Ending.returned (.bool ((k : Int) == (j : Int))) = _; rw [show ((k : Int) == (j : Int)) = (k == j) from by rw [Bool.eq_iff_iff, beq_iff_eq, beq_iff_eq]; constructor <;> intro h <;> omega], rfl⟩
end Go.Proofs.Yteghbfkkpnlilaa

/-
  Words for objects in memory: what a call turned (Only F: no older block but those of F), where an object's new blocks lie (Fresh), that two objects share none (Apart). A map with numbers for keys. No condition; nothing of the program is named.
-/
namespace Go.Proofs.Yteghbfkkpnlilaa
open Go.RowKit Go.ChangeMaps
structure Only (F : List Nat) (w w' : World) : Prop where
  os : w'.os = w.os
  tape : w'.tape = w.tape
  output : w'.output = w.output
  size : w.heap.size ≤ w'.heap.size
  block : ∀ k, k < w.heap.size → k ∉ F → w'.heap[k]? = w.heap[k]?
def Fresh (w : World) (F F' : List Nat) : Prop := ∀ k, k ∈ F' → k ∈ F ∨ w.heap.size ≤ k
def Under (w : World) (F : List Nat) : Prop := ∀ k, k ∈ F → k < w.heap.size
def Over (B : Nat) (F : List Nat) : Prop := ∀ k, k ∈ F → B ≤ k
section
variable {F F' F'' G : List Nat} {w w' w'' : World}
theorem Only.refl (F : List Nat) (w : World) : Only F w w := ⟨rfl, rfl, rfl, Nat.le_refl _, fun _ _ _ => rfl⟩
theorem Only.trans (h : Only F w w') (k : Only F' w' w'') (hf : Fresh w F F') : Only F w w'' :=
  ⟨k.os.trans h.os, k.tape.trans h.tape, k.output.trans h.output, Nat.le_trans h.size k.size, fun i hi hn =>
    (k.block i (Nat.lt_of_lt_of_le hi h.size) (fun hm => by
      rcases hf i hm with h1 | h1
      · exact hn h1
      · omega)).trans (h.block i hi hn)⟩
theorem Only.mono (h : Only F w w') (hs : ∀ k, k ∈ F → k ∈ G) : Only G w w' := ⟨h.os, h.tape, h.output, h.size, fun i hi hn => h.block i hi (fun hm => hn (hs i hm))⟩
theorem Only.alloc (h : Only F w w') (o : Obj) : Only F w (w'.alloc o) :=
  ⟨h.os, h.tape, h.output, Nat.le_trans h.size (by simp), fun i hi hn => (Below.heap_alloc w' o i (Nat.lt_of_lt_of_le hi h.size)).trans (h.block i hi hn)⟩
theorem Only.drew (h : Only F w w') : Only F w w'.drew := ⟨h.os, h.tape, h.output, h.size, h.block⟩
theorem Only.setCell (h : Only F w w') {p : Addr} (hp : p.block ∈ F ∨ w.heap.size ≤ p.block) (u : Value) : Only F w (w'.setCell p u) :=
  ⟨h.os, h.tape, h.output, by simpa [World.setCell] using h.size, fun i hi hn => (Below.heap_setCell w' p u i (by
    rintro rfl
    rcases hp with hp | hp
    · exact hn hp
    · omega)).trans (h.block i hi hn)⟩
theorem Only.grown (h : Only F w w') {row : Option Nat} (hg : w'.grownBy w'' row) (hr : ∀ g, row = some g → g ∈ F ∨ w.heap.size ≤ g) : Only F w w'' :=
  ⟨hg.os.trans h.os, hg.tape.trans h.tape, hg.output.trans h.output, Nat.le_trans h.size hg.size, fun i hi hn => (hg.block i (Nat.lt_of_lt_of_le hi h.size) (fun e => by
    rcases hr i e.symm with h1 | h1
    · exact hn h1
    · omega)).trans (h.block i hi hn)⟩
theorem Only.of_below (h : Below w.heap.size w w') (F : List Nat) : Only F w w' := ⟨h.os, h.tape, h.output, h.size, fun i hi _ => h.block i hi⟩
theorem Only.below (h : Only F w w') {B : Nat} (hB : Over B F) (hs : B ≤ w.heap.size) : Below B w w' :=
  ⟨h.os, h.tape, h.output, h.size, fun i hi => h.block i (by omega) (fun hm => by have := hB i hm; omega)⟩
theorem Only.cell (h : Only F w w') {p : Addr} (hp : p.block < w.heap.size) (hn : p.block ∉ F) : w'.cell? p = w.cell? p := World.cell?_of_block (w := w) (h.block p.block hp hn)
theorem Fresh.refl (w : World) (F : List Nat) : Fresh w F F := fun _ h => .inl h
theorem Fresh.trans (h : Fresh w F F') (k : Fresh w' F' F'') (hs : w.heap.size ≤ w'.heap.size) : Fresh w F F'' := fun i hi => by
  rcases k i hi with h1 | h1
  · exact h i h1
  · exact .inr (by omega)
theorem below_drew' {B : Nat} (h : Below B w.drew w') : Below B w w' := ⟨h.os, h.tape, h.output, h.size, h.block⟩
theorem Blk.of {g : Nat} {t : TypeId} {cs : Array Value} (h : Blk w g t cs) (e : w'.heap[g]? = w.heap[g]?) : Blk w' g t cs := e.trans h
def rowOf (v : Value) : List Nat := v.ownBlock.toList
theorem mem_rowOf {v : Value} {k : Nat} : k ∈ rowOf v ↔ v.ownBlock = some k := by simp [rowOf]
theorem row_of {base : Nat} {e : TypeId} {size n : Nat} {v : Value} {xs : List Value} (h : w.ownsRow base e size v n xs) (hk : ∀ k, k ∈ rowOf v → w'.heap[k]? = w.heap[k]?) : w'.ownsRow base e size v n xs := by
  refine ⟨h.1, ?_⟩
  rcases h.2 with h2 | ⟨g, cap, cur, hv, hg, hh, r⟩
  · exact .inl h2
  · exact .inr ⟨g, cap, cur, hv, hg, by rw [hk g (by subst hv; simp [rowOf, Value.ownBlock])]; exact hh, r⟩
theorem row_weaken {base base' : Nat} {e : TypeId} {size n : Nat} {v : Value} {xs : List Value} (h : w.ownsRow base e size v n xs) (hb : base' ≤ base) : w.ownsRow base' e size v n xs := by
  refine ⟨h.1, ?_⟩
  rcases h.2 with h | ⟨g, cap, cur, e, hg, r⟩
  · exact .inl h
  · exact .inr ⟨g, cap, cur, e, Nat.le_trans hb hg, r⟩
theorem row_under {base : Nat} {e : TypeId} {size n : Nat} {v : Value} {xs : List Value} (h : w.ownsRow base e size v n xs) : Under w (rowOf v) := fun k hk => (World.ownsRow.lt h k (mem_rowOf.1 hk)).2
theorem row_over {base : Nat} {e : TypeId} {size n : Nat} {v : Value} {xs : List Value} (h : w.ownsRow base e size v n xs) : Over base (rowOf v) := fun k hk => (World.ownsRow.lt h k (mem_rowOf.1 hk)).1
end
/-! ### a store of many cells -/
theorem setCells_grown (g : Nat) : ∀ (vs : List Value) (o : Nat) (w : World), w.grownBy (w.setCells g o vs) (some g) ∧ (w.setCells g o vs).heap.size = w.heap.size
  | [], _, w => ⟨World.grownBy.refl w _, rfl⟩
  | v :: vs, o, w => by
    obtain ⟨h1, h2⟩ := setCells_grown g vs (o + 1) (w.setCell ⟨g, o, none⟩ v)
    rw [World.setCells]
    have h0 : w.grownBy (w.setCell ⟨g, o, none⟩ v) (some g) := ⟨rfl, rfl, rfl, by simp [World.setCell], fun k _ hn => Below.heap_setCell w ⟨g, o, none⟩ v k (fun e => hn (by rw [e]))⟩
    exact ⟨h0.trans h1, by rw [h2]; simp [World.setCell]⟩
theorem Blk.setCells_ {g : Nat} {t : TypeId} : ∀ (vs : List Value) (o : Nat) {w : World} {cs : Array Value}, Blk w g t cs → ∃ cs', Blk (w.setCells g o vs) g t cs' ∧ cs'.size = cs.size
  | [], _, _, cs, h => ⟨cs, h, rfl⟩
  | v :: vs, o, w, cs, h => by
    obtain ⟨cs', h1, h2⟩ := Blk.setCells_ vs (o + 1) (h.set_ o v)
    exact ⟨cs', h1, by simpa using h2⟩
theorem Blk.over {g : Nat} {t : TypeId} {w : World} {cs : Array Value} (h : Blk w g t cs) (vs : List Value) (hl : vs.length = cs.size) : Blk (w.setCells g 0 vs) g t vs.toArray := by
  obtain ⟨cs', h1, h2⟩ := Blk.setCells_ vs 0 h
  have : cs' = vs.toArray := by
    apply Array.ext_getElem?
    intro k
    rw [← h1.cell k]
    by_cases hk : k < vs.length
    · have := World.cell?_setCells_in g vs 0 w (fun j hj => by rw [Nat.zero_add, h.cell]; simp; omega) k hk
      rw [Nat.zero_add] at this
      rw [this]
      simp [hk]
    · rw [h1.cell, Array.getElem?_eq_none (by omega)]
      simp
      omega
  rw [← this]
  exact h1
theorem Blk.there {g : Nat} {t : TypeId} {w : World} {cs : Array Value} (h : Blk w g t cs) {o n : Nat} (hn : o + n ≤ cs.size) : w.there g o n := fun j hj => ⟨by rw [h.cell]; simp; omega, h.frozen _⟩
theorem Blk.range {g : Nat} {t : TypeId} {w : World} {cs : List Value} (h : Blk w g t cs.toArray) : w.rangeAt g 0 cs := fun j u hj => by rw [Nat.zero_add, h.cell]; simpa using hj
/-! ### a row of elements of several cells -/
theorem flat_at {α : Type} (f : α → List Value) (size : Nat) (hf : ∀ x, (f x).length = size) : ∀ (l : List α) (k j : Nat) (x : α), l[k]? = some x → j < size → (l.flatMap f)[k * size + j]? = (f x)[j]?
  | [], _, _, _, h, _ => by simp at h
  | y :: l, 0, j, x, h, hj => by
    simp at h
    subst h
    rw [List.flatMap_cons, Nat.zero_mul, Nat.zero_add, List.getElem?_append_left (by rw [hf]; exact hj)]
  | y :: l, k + 1, j, x, h, hj => by
    rw [List.flatMap_cons, List.getElem?_append_right (by rw [hf, Nat.add_mul]; omega), hf, show (k + 1) * size + j - size = k * size + j by rw [Nat.add_mul]; omega]
    exact flat_at f size hf l k j x (by simpa using h) hj
/-! ### a cell that may be written and a range, kept through a region that draws its order -/
/-! ### a map whose keys are numbers -/
section
variable {P : Program} {w w' : World} {g : Nat} {f : Int → Option Value}
end
end Go.Proofs.Yteghbfkkpnlilaa

/-
  Bytes that a call collects in a slice of its own: make, append, over this program's numbers. No condition but the sizes.
-/
namespace Go.Proofs.Yteghbfkkpnlilaa
open Go.RowKit
theorem byte_info : (Try.prog.info? 5).map (fun i => (i.zero, i.size, i.bytes)) = some (some (.int .u8 0), 1, 1) := by kernel_rfl
def Own (w : World) (base : Nat) (v : Value) (n : Nat) (bs : List Nat) : Prop := w.ownsRow base 5 1 v n (u8s bs)
theorem Own.nil (w : World) (base : Nat) : Own w base (.slice none 0 0) 0 [] := World.ownsRow_nil w base _ 1
theorem Own.new (w : World) (base : Nat) (hb : base ≤ w.heap.size) : Own (w.alloc (.cells #[] 5)) base (.slice (some ⟨w.heap.size, 0, none⟩) 0 0) 0 [] := by
  have := World.ownsRow_made (base := base) (e := 5) (size := 1) w #[] 0 hb (by simp [maxLen]) (by simp)
  simpa [Own, u8s] using this
theorem Own.len {w : World} {base : Nat} {v : Value} {n : Nat} {bs : List Nat} (h : Own w base v n bs) : bs.length = n := by
  have := h.1
  rw [u8s_length] at this
  omega
theorem Own.form {w : World} {base : Nat} {v : Value} {n : Nat} {bs : List Nat} (h : Own w base v n bs) :
    ∃ (A : Option Addr) (cap : Nat), v = .slice A n cap ∧ n ≤ cap ∧ cap ≤ maxLen ∧ (A = none ∧ n = 0 ∧ cap = 0 ∨ ∃ g, A = some ⟨g, 0, none⟩ ∧ base ≤ g ∧ g < w.heap.size) := by
  rcases h.2 with ⟨rfl, hx⟩ | ⟨g, cap, cur, rfl, hbg, hg, hnc, hcm, hcs, hpre⟩
  · have : n = 0 := by have := h.1; rw [hx] at this; simp at this; omega
    subst this
    exact ⟨none, 0, rfl, by omega, by simp [maxLen], .inl ⟨rfl, rfl, rfl⟩⟩
  · have hlt : g < w.heap.size := by
      rcases Nat.lt_or_ge g w.heap.size with h1 | h1
      · exact h1
      · rw [Array.getElem?_eq_none h1] at hg; cases hg
    exact ⟨some ⟨g, 0, none⟩, cap, rfl, hnc, hcm, .inr ⟨g, rfl, hbg, hlt⟩⟩
theorem Own.bytes {w : World} {base : Nat} {A : Option Addr} {n c : Nat} {bs : List Nat} (h : Own w base (.slice A n c) n bs) (hb : ∀ b ∈ bs, b < 256) : Bytes w w.heap.size A n bs :=
  ⟨Reads.of_own h, hb⟩
theorem Own.alloc {w : World} {base : Nat} {v : Value} {n : Nat} {bs : List Nat} (h : Own w base v n bs) (o : Obj) : Own (w.alloc o) base v n bs := World.ownsRow.alloc h o
theorem Own.drew {w : World} {base : Nat} {v : Value} {n : Nat} {bs : List Nat} (h : Own w base v n bs) : Own w.drew base v n bs := h
theorem Own.below {w w' : World} {base : Nat} {v : Value} {n : Nat} {bs : List Nat} (h : Own w base v n bs) (hb : Below w.heap.size w w') : Own w' base v n bs :=
  World.ownsRow.kept (row := none) h ⟨hb.os, hb.tape, hb.output, hb.size, fun i hi _ => hb.block i hi⟩ (by cases v.ownBlock <;> simp)
theorem Own.weaken {w : World} {base base' : Nat} {v : Value} {n : Nat} {bs : List Nat} (h : Own w base v n bs) (hb : base' ≤ base) : Own w base' v n bs := by
  refine ⟨h.1, ?_⟩
  rcases h.2 with h | ⟨g, cap, cur, e, hg, r⟩
  · exact .inl h
  · exact .inr ⟨g, cap, cur, e, Nat.le_trans hb hg, r⟩
theorem Own.stored {w : World} {base g n cap : Nat} {bs : List Nat} (h : Own w base (.slice (some ⟨g, 0, none⟩) n cap) n bs) (j b : Nat) :
    Own (w.setCell ⟨g, j, none⟩ (.int .u8 (b : Int))) base (.slice (some ⟨g, 0, none⟩) n cap) n (bs.set j b) := by
  have := (World.ownsRow.stored h j (.int .u8 (b : Int))).1
  unfold Own
  rwa [u8s, List.map_set]
theorem Own.cell {w : World} {base g n cap : Nat} {bs : List Nat} (h : Own w base (.slice (some ⟨g, 0, none⟩) n cap) n bs) {j b : Nat} (hj : bs[j]? = some b) : w.cell? ⟨g, j, none⟩ = some (.int .u8 (b : Int)) := by
  have hl : j < bs.length := by
    rcases Nat.lt_or_ge j bs.length with h1 | h1
    · exact h1
    · rw [List.getElem?_eq_none h1] at hj; cases hj
  rw [World.ownsRow.cellAt h j (by have := h.len; omega)]
  simp [u8s, u8, hj]
theorem Own.frozen {w : World} {base g n cap : Nat} {bs : List Nat} (h : Own w base (.slice (some ⟨g, 0, none⟩) n cap) n bs) (j : Nat) : w.frozen? ⟨g, j, none⟩ = false := World.ownsRow.frozenAt h j
theorem app_bytes {w : World} {ops : Array Oper} {rest : List Oper} {o : Oper} {a : Act} {Q : Exit → Act → World → Prop} (s x : Operand)
    (hgd : o.guard = none) (ho : o.op = .call { callee := .builtin .append, args := #[s, x], argTypes := #[22, 22] })
    (base : Nat) (v : Value) (n : Nat) (bs : List Nat) (hs : a.eval s = v) (hown : Own w base v n bs)
    (B : Nat) (A : Option Addr) (m c : Nat) (news : List Nat) (hx : a.eval x = .slice A m c) (hr : Bytes w B A m news)
    (hsz : n + m ≤ 100000000000000) (hbase : base ≤ w.heap.size)
    (h : ∀ v' w', Own w' base v' (n + m) (bs ++ news) → w.grownBy w' v.ownBlock → (v'.ownBlock = v.ownBlock ∨ v'.ownBlock = some w.heap.size) → wpList Try.prog ops Q rest (a.put o.dst v') w') :
    wpList Try.prog ops Q (o :: rest) a w := by
  obtain ⟨i0, hi0, hz0, hz1, hz2⟩ := info_parts byte_info
  refine wpList_append_any w hgd s x _ ho base 5 i0 _ 1 1 Try.underlying22 hi0 hz0 hz1 hz2 rfl (by omega) v n (u8s bs) hs hown B A m c (u8s news) hx hr.1 (oneCell_u8s _)
    (by simp only [maxLen]; omega) (by omega) hbase ?_
  intro v' w' h1 h2 h3
  exact h v' w' (by unfold Own; rw [u8s, List.map_append]; exact h1) h2 h3
theorem make_bytes {w : World} {ops : Array Oper} {rest : List Oper} {o : Oper} {a : Act} {Q : Exit → Act → World → Prop} (l c : Operand)
    (hg : o.guard = none) (hop : o.op = Op.makeSlice 22 l c) (base : Nat) (kl kc : IntKind) (C : Int) (n : Nat) (hl : a.eval l = .int kl 0) (hc : a.eval c = .int kc C)
    (hC : C = (n : Int)) (hn : n ≤ 100000000000000) (hbase : base ≤ w.heap.size)
    (hK : ∀ w', Own w' base (.slice (some ⟨w.heap.size, 0, none⟩) 0 n) 0 [] → w.grownBy w' none → wpList Try.prog ops Q rest (a.put o.dst (.slice (some ⟨w.heap.size, 0, none⟩) 0 n)) w') :
    wpList Try.prog ops Q (o :: rest) a w := by
  obtain ⟨i0, hi0, hz0, hz1, hz2⟩ := info_parts byte_info
  exact wpList_make_own w hg l c _ hop base 5 i0 _ 1 Try.underlying22 hi0 hz0 hz1 kl kc C n hl hc hC (by rw [hz2]; omega) (by simp only [maxLen]; omega) hbase hK
def strOf (bs : List Nat) : ByteArray := strOfNums (bs.map fun (b : Nat) => (b : Int))
theorem str_of {P : Program} {w : World} {B n : Nat} {A : Option Addr} {bs : List Nat} (h : Bytes w B A n bs) (c : Nat) (src dst e : TypeId)
    (hs : P.underlying src = some (.slice e)) (he : P.underlying e = some (.int .u8)) (hd : P.underlying dst = some .string) :
    (convert src dst (.slice A n c)).run P w = .ok (.string (strOf bs)) w := by
  rw [run_convert_bytes_string w src dst e _ n c hs he hd]
  rcases A with _ | a
  · have hn : n = 0 := by
      rcases Nat.eq_zero_or_pos n with h0 | h0
      · exact h0
      · obtain ⟨ad, h1, _⟩ := h.1.2 h0
        cases h1
    have hb : bs = [] := List.eq_nil_of_length_eq_zero (by rw [h.len, hn])
    subst hb
    simp [Conv.bytesToString, strOf, strOfNums]
    rfl
  · have hcell : ∀ j v, (u8s bs)[j]? = some v → w.cell? (a.add j) = some v := by
      intro j v hj
      have hlt : j < n := by
        rcases Nat.lt_or_ge j n with h1 | h1
        · exact h1
        · rw [List.getElem?_eq_none (by rw [u8s_length, h.len]; exact h1)] at hj
          cases hj
      obtain ⟨ad, he', _, hc⟩ := h.1.2 (by omega)
      injection he' with he'
      subst he'
      exact hc j v hj
    have hl : (loadCells a n).run P w = .ok ((bs.map fun (b : Nat) => (b : Int)).map (Value.int .u8)).toArray w := by
      have h1 := run_loadCells_list (P := P) w a (u8s bs) hcell
      rw [u8s_length, h.len] at h1
      rw [h1, List.map_map]
      rfl
    rw [run_bytesToString w _ n c _ hl, foldl_push_bytes]
    simp [strOf, strOfNums, ByteArray.empty, ByteArray.emptyWithCapacity]
    rfl
theorem below_own {B : Nat} {w0 w w' : World} {base : Nat} {v : Value} {n : Nat} {bs : List Nat} (h : Below B w0 w) (hown : Own w base v n bs) (hB : B ≤ base) (hg : w.grownBy w' v.ownBlock) (hs : B ≤ w.heap.size) : Below B w0 w' :=
  h.grown hg hs (fun k hk => by have := (World.ownsRow.lt hown k hk).1; omega)
end Go.Proofs.Yteghbfkkpnlilaa

/-
  Where the program's writers and readers lie; bytes.Clone. No condition.
-/
namespace Go.Proofs.Yteghbfkkpnlilaa
open Go.RowKit
set_option linter.unusedSimpArgs false
set_option linter.unusedVariables false
theorem bytes_nil (A : Option Addr) (n c : Nat) (w : World) : (binOp .eql 22 (.slice A n c) (.slice none 0 0)).run Try.prog w = .ok (.bool A.isNone) w := by
  cases A <;> kernel_rfl
theorem Reads.since {w w' : World} {B size n : Nat} {A : Option Addr} {xs : List Value} (h : Reads w B size A n xs) (hb : Below w.heap.size w w') : Reads w' B size A n xs :=
  ⟨h.1, fun hn => by
    obtain ⟨ad, e, hB, hc⟩ := h.2 hn
    exact ⟨ad, e, hB, fun j u hu => (hb.cell (World.block_lt_of_cell? w _ (hc j u hu))).trans (hc j u hu)⟩⟩
theorem Bytes.since {w w' : World} {B n : Nat} {A : Option Addr} {bs : List Nat} (h : Bytes w B A n bs) (hb : Below w.heap.size w w') : Bytes w' B A n bs := ⟨h.1.since hb, h.2⟩
theorem below_alloc (w : World) (o : Obj) : Below w.heap.size w (w.alloc o) := (Below.refl _ _).alloc (Nat.le_refl _) _
theorem clone_any (A : Option Addr) (n c : Nat) (bs : List Nat) (w : World) (B : Nat) (hn : n ≤ 10000000) (hb : Bytes w B A n bs) :
    Calls Try.prog 43 #[.slice A n c] w fun e w' => ∃ v, e = .returned v ∧ Own w' w.heap.size v n bs ∧ Below w.heap.size w w' := by
  have hnil := bytes_nil A n c
  rcases A with _ | ad
  · have hn0 : n = 0 := by
      rcases Nat.eq_zero_or_pos n with h | h
      · exact h
      · obtain ⟨_, h, _⟩ := hb.1.2 h; cases h
    subst hn0
    obtain rfl : bs = [] := List.eq_nil_of_length_eq_zero hb.len
    simp only [Option.isNone_none] at hnil
    go_enter Try.func43, Try.ntmps43
    go_wp2
    go_ret
    exact ⟨_, rfl, Own.nil _ _, Below.refl _ _⟩
  · simp only [Option.isNone_some] at hnil
    have hb1 := hb.since (below_alloc w (.cells #[] 5))
    go_enter Try.func43, Try.ntmps43
    go_wp2_with (refine app_bytes (.tmp 5) (.tmp 6) rfl rfl w.heap.size (.slice (some ⟨w.heap.size, 0, none⟩) 0 0) 0 [] rfl (Own.new w w.heap.size (Nat.le_refl _)) B (some ad) n c bs rfl hb1 (by omega) (by simp) ?_
                 intro v2 w2 h2 g2 a2)
    go_ret
    exact ⟨v2, rfl, by simpa using h2, below_own (below_alloc w _) (Own.new w w.heap.size (Nat.le_refl _)) (Nat.le_refl _) g2 (by simp)⟩
/-! ### a writer -/
def WrAt (w : World) (base : Nat) (F : List Nat) (g : Nat) (bs : List Nat) : Prop :=
  ∃ v, F = g :: rowOf v ∧ Blk w g 87 #[v] ∧ Own w base v bs.length bs ∧ base ≤ g ∧ ∀ b ∈ bs, b < 256
def WrTo (w : World) (base : Nat) (F : List Nat) (g : Nat) (bs : List Nat) (w' : World) : Prop := ∃ F', WrAt w' base F' g bs ∧ Only F w w' ∧ Fresh w F F'
section
variable {w w' : World} {base g : Nat} {F : List Nat} {bs : List Nat}
theorem WrAt.of (h : WrAt w base F g bs) (hk : ∀ k, k ∈ F → w'.heap[k]? = w.heap[k]?) : WrAt w' base F g bs := by
  obtain ⟨v, rfl, h1, h2, h3⟩ := h
  exact ⟨v, rfl, h1.of (hk g (by simp)), row_of h2 (fun k hk' => hk k (by simp [hk'])), h3⟩
theorem WrAt.under (h : WrAt w base F g bs) : Under w F := by
  obtain ⟨v, rfl, h1, h2, h3⟩ := h
  intro k hk
  rcases List.mem_cons.1 hk with rfl | hk
  · exact h1.lt
  · exact row_under h2 k hk
theorem WrAt.over (h : WrAt w base F g bs) : Over base F := by
  obtain ⟨v, rfl, h1, h2, h3, h4⟩ := h
  intro k hk
  rcases List.mem_cons.1 hk with rfl | hk
  · exact h3
  · exact row_over h2 k hk
end
theorem put_nil (v : Value) (w : World) : Calls Try.prog 84 #[.pointer none, v] w fun e w' => e = .returned (.tuple #[]) ∧ w = w' := by
  go_enter Try.func84, Try.ntmps84
  go_wp2
  refine bodyPost_end (results_none rfl _ _ _) rfl ?_
  exact ⟨rfl, rfl⟩
theorem put_any (w : World) (base g : Nat) (F : List Nat) (bs news : List Nat) (B : Nat) (A : Option Addr) (n c : Nat) (h : WrAt w base F g bs) (hb : Bytes w B A n news) (hl : bs.length + n ≤ 10000000) (hB : base ≤ w.heap.size) :
    Calls Try.prog 84 #[.pointer (some ⟨g, 0, none⟩), .slice A n c] w fun e w' => e = .returned (.tuple #[]) ∧ WrTo w base F g (bs ++ news) w' := by
  obtain ⟨v, rfl, h1, h2, h3, h4⟩ := h
  have hne : v.ownBlock ≠ some g := own_blk_ne h2 h1 (by decide)
  obtain ⟨A1, c1, rfl, -, -, -⟩ := h2.form
  have hc : w.cell? ⟨g, 0, none⟩ = some (.slice A1 bs.length c1) := by rw [h1.cell]; rfl
  have hlt := h1.lt
  go_enter Try.func84, Try.ntmps84
  go_wp2_with (refine app_bytes (.tmp 10) (.tmp 11) rfl rfl base (.slice A1 bs.length c1) bs.length bs rfl h2 B A n c news rfl hb (by omega) hB ?_
               intro v2 w2 k2 g2 a2
               have hc2 : w2.cell? ⟨g, 0, none⟩ = some (.slice A1 bs.length c1) := by rw [(h1.grown g2 (Ne.symm hne)).cell]; rfl
               have hf2 : w2.frozen? ⟨g, 0, none⟩ = false := (h1.grown g2 (Ne.symm hne)).frozen _
               obtain ⟨A2, c2, rfl, -, -, -⟩ := k2.form)
  refine bodyPost_end (results_none rfl _ _ _) rfl ?_
  have hb2 := h1.grown g2 (Ne.symm hne)
  have hne2 : (Value.slice A2 (bs.length + n) c2).ownBlock ≠ some g := own_blk_ne k2 hb2 (by decide)
  have hlen : (bs ++ news).length = bs.length + n := by rw [List.length_append, hb.len]
  refine ⟨rfl, g :: rowOf (.slice A2 (bs.length + n) c2), ⟨_, rfl, hb2.set_ 0 _, ?_, h3, fun b hm => ?_⟩, ?_, fun k hk => ?_⟩
  · rw [hlen]
    exact row_of k2 fun k hk => Below.heap_setCell _ _ _ _ (fun e => hne2 (by subst e; exact mem_rowOf.1 hk))
  · rcases List.mem_append.1 hm with hm | hm
    · exact h4 b hm
    · exact hb.2 b hm
  · exact ((Only.refl _ _).grown g2 (fun k e => .inl (by simp [rowOf, ← e]))).setCell (.inl (by simp)) _
  · rcases List.mem_cons.1 hk with rfl | hk
    · exact .inl (by simp)
    · have hk' := mem_rowOf.1 hk
      rcases a2 with e | e
      · exact .inl (List.mem_cons_of_mem _ (mem_rowOf.2 (by rw [← e]; exact hk')))
      · rw [e] at hk'; injection hk' with hk'; exact .inr (by omega)
/-! ### packed -/
theorem eight_zero (w : World) : (zeroValue 118).run Try.prog w = .ok (.agg #[.int .u8 0, .int .u8 0, .int .u8 0, .int .u8 0, .int .u8 0, .int .u8 0, .int .u8 0, .int .u8 0]) w := by kernel_rfl
theorem numB_eq (n : Int) : (u8s (numB n)).toArray = #[.int .u8 (n % 256), .int .u8 (n / 256 % 256), .int .u8 (n / 65536 % 256), .int .u8 (n / 16777216 % 256), .int .u8 (n / 4294967296 % 256), .int .u8 (n / 1099511627776 % 256), .int .u8 (n / 281474976710656 % 256), .int .u8 (n / 72057594037927936 % 256)] := by
  simp only [numB, le, u8s, u8, nat64, List.map_cons, List.map_nil]
  simp only [List.toArray, Array.mk.injEq, List.cons.injEq, Value.int.injEq, true_and, and_true]
  refine ⟨?_, ?_, ?_, ?_, ?_, ?_, ?_, ?_⟩ <;> omega
theorem packed_any (n : Int) (w : World) : Calls Try.prog 86 #[.int .i64 n] w fun e w' => e = .returned (.agg (u8s (numB n)).toArray) ∧ Below w.heap.size w w' := by
  have hz := eight_zero
  go_enter Try.func86, Try.ntmps86
  go_wp2
  go_rounds 9
  refine bodyPost_ret (results_cell_row rfl _ _ w.heap.size 118 _ (0, 0) _ rfl ((Blk.new w _ _).alloc _) Try.underlying118 rfl (by kernel_rfl)) rfl ?_
  exact ⟨by rw [numB_eq], ((Below.refl _ _).alloc (Nat.le_refl _) _).alloc (by simp) _⟩
theorem unpacked_any (b0 b1 b2 b3 b4 b5 b6 b7 : Nat) (w : World) (h0 : b0 < 256) (h1 : b1 < 256) (h2 : b2 < 256) (h3 : b3 < 256) (h4 : b4 < 256) (h5 : b5 < 256) (h6 : b6 < 256) (h7 : b7 < 256) :
    Calls Try.prog 90 #[.agg (u8s [b0, b1, b2, b3, b4, b5, b6, b7]).toArray] w fun e w' => e = .returned (.int .i64 (numOf [b0, b1, b2, b3, b4, b5, b6, b7])) ∧ Below w.heap.size w w' := by
  simp only [u8s, u8, List.map_cons, List.map_nil]
  have x0 : ∀ w, (Instr.index 118 (.agg #[.int .u8 (b0 : Int), .int .u8 (b1 : Int), .int .u8 (b2 : Int), .int .u8 (b3 : Int), .int .u8 (b4 : Int), .int .u8 (b5 : Int), .int .u8 (b6 : Int), .int .u8 (b7 : Int)]) (.int .i64 0)).run Try.prog w = .ok (.int .u8 b0) w := fun w => by kernel_rfl
  have x1 : ∀ w, (Instr.index 118 (.agg #[.int .u8 (b0 : Int), .int .u8 (b1 : Int), .int .u8 (b2 : Int), .int .u8 (b3 : Int), .int .u8 (b4 : Int), .int .u8 (b5 : Int), .int .u8 (b6 : Int), .int .u8 (b7 : Int)]) (.int .i64 1)).run Try.prog w = .ok (.int .u8 b1) w := fun w => by kernel_rfl
  have x2 : ∀ w, (Instr.index 118 (.agg #[.int .u8 (b0 : Int), .int .u8 (b1 : Int), .int .u8 (b2 : Int), .int .u8 (b3 : Int), .int .u8 (b4 : Int), .int .u8 (b5 : Int), .int .u8 (b6 : Int), .int .u8 (b7 : Int)]) (.int .i64 2)).run Try.prog w = .ok (.int .u8 b2) w := fun w => by kernel_rfl
  have x3 : ∀ w, (Instr.index 118 (.agg #[.int .u8 (b0 : Int), .int .u8 (b1 : Int), .int .u8 (b2 : Int), .int .u8 (b3 : Int), .int .u8 (b4 : Int), .int .u8 (b5 : Int), .int .u8 (b6 : Int), .int .u8 (b7 : Int)]) (.int .i64 3)).run Try.prog w = .ok (.int .u8 b3) w := fun w => by kernel_rfl
  have x4 : ∀ w, (Instr.index 118 (.agg #[.int .u8 (b0 : Int), .int .u8 (b1 : Int), .int .u8 (b2 : Int), .int .u8 (b3 : Int), .int .u8 (b4 : Int), .int .u8 (b5 : Int), .int .u8 (b6 : Int), .int .u8 (b7 : Int)]) (.int .i64 4)).run Try.prog w = .ok (.int .u8 b4) w := fun w => by kernel_rfl
  have x5 : ∀ w, (Instr.index 118 (.agg #[.int .u8 (b0 : Int), .int .u8 (b1 : Int), .int .u8 (b2 : Int), .int .u8 (b3 : Int), .int .u8 (b4 : Int), .int .u8 (b5 : Int), .int .u8 (b6 : Int), .int .u8 (b7 : Int)]) (.int .i64 5)).run Try.prog w = .ok (.int .u8 b5) w := fun w => by kernel_rfl
  have x6 : ∀ w, (Instr.index 118 (.agg #[.int .u8 (b0 : Int), .int .u8 (b1 : Int), .int .u8 (b2 : Int), .int .u8 (b3 : Int), .int .u8 (b4 : Int), .int .u8 (b5 : Int), .int .u8 (b6 : Int), .int .u8 (b7 : Int)]) (.int .i64 6)).run Try.prog w = .ok (.int .u8 b6) w := fun w => by kernel_rfl
  have x7 : ∀ w, (Instr.index 118 (.agg #[.int .u8 (b0 : Int), .int .u8 (b1 : Int), .int .u8 (b2 : Int), .int .u8 (b3 : Int), .int .u8 (b4 : Int), .int .u8 (b5 : Int), .int .u8 (b6 : Int), .int .u8 (b7 : Int)]) (.int .i64 7)).run Try.prog w = .ok (.int .u8 b7) w := fun w => by kernel_rfl
  go_enter Try.func90, Try.ntmps90
  go_wp2
  go_rounds 9
  go_ret
  refine ⟨?_, below_alloc _ _⟩
  exact congrArg (fun q => Ending.returned (.int .i64 q)) (or_eight b0 b1 b2 b3 b4 b5 b6 b7 h0 h1 h2 h3 h4 h5 h6 h7)
end Go.Proofs.Yteghbfkkpnlilaa

/-
  Values of many cells: how a struct of two parts, or a slice of one element, is put together, whatever the cells. No condition but the sizes.
-/
namespace Go.Proofs.Yteghbfkkpnlilaa
open Go.RowKit
theorem run_buildSlice_one {P : Program} {t e : TypeId} {size : Nat} (hu : P.underlying t = some (.slice e)) (hz : (P.info? e).bind (fun i => i.zero.map fun z => (i.size, z.cells.size)) = some (size, size)) (hs : 0 < size) (hb : size ≤ 16777216) {v : Value} (h0 : v.cells.size = size) (w : World) :
    (Instr.buildSlice t 1 #[(0, v)]).run P w = .ok (.slice (some ⟨w.heap.size, 0, none⟩) 1 1) (w.alloc (.cells v.cells e)) := by
  cases hi : P.info? e with
  | none => simp [hi] at hz
  | some ie =>
    cases hz' : ie.zero with
    | none => simp [hi, hz'] at hz
    | some z =>
      simp [hi, hz'] at hz
      obtain ⟨e1, e2⟩ := hz
      refine run_buildSlice w t e 1 _ _ ie z hu hi hz' (by rw [e1]; omega) (by rw [e1]; omega) ?_
      have := Great.fill_whole hs [v] ((Array.range (1 * ie.size)).map (z.cells[· % z.cells.size]!)) (fun u hu => by simp at hu; subst hu; exact h0) (by simp [e1])
      rw [e1] at this ⊢
      simpa using this
theorem wpList_store_new {P : Program} {ops : Array Oper} {rest : List Oper} {o : Oper} {a : Act} {w : World} {Q : Exit → Act → World → Prop} (hgd : o.guard = none) (ty : TypeId) (x y : Operand) (ho : o.op = .store ty x y)
    (cells : List Value) (Z : Array Value) (hx : a.eval x = .pointer (some ⟨w.heap.size, 0, none⟩)) (hy : a.eval y = .agg cells.toArray) (hi : (P.info? ty).map (·.size) = some cells.length) (hz : Z.size = cells.length) (h1 : ∀ v ∈ cells, v.oneCell' = true)
    (h : wpList P ops Q rest (a.put o.dst undef) (w.alloc (.cells cells.toArray ty))) : wpList P ops Q (o :: rest) a (w.alloc (.cells Z ty)) :=
  wpList_plain hgd fun _ hK => by
    have hr := run_storeAt_new (P := P) w ty Z cells.toArray (by simpa using hi) (by simpa using hz) (all_oneCell_toArray h1)
    unfold Oper.wp execOp
    simp only [ho, hx, hy, Sem.run_bind, hr, Result.andThen_ok]
    exact hK _ _ h
theorem wpList_store_newN {P : Program} {ops : Array Oper} {rest : List Oper} {o : Oper} {a : Act} {w : World} {Q : Exit → Act → World → Prop} (hgd : o.guard = none) (ty : TypeId) (x y : Operand) (ho : o.op = .store ty x y) (N : Nat) (hN : w.heap.size = N)
    (cells : List Value) (Z : Array Value) (hx : a.eval x = .pointer (some ⟨N, 0, none⟩)) (hy : a.eval y = .agg cells.toArray) (hi : (P.info? ty).map (·.size) = some cells.length) (hz : Z.size = cells.length) (h1 : ∀ v ∈ cells, v.oneCell' = true)
    (h : wpList P ops Q rest (a.put o.dst undef) (w.alloc (.cells cells.toArray ty))) : wpList P ops Q (o :: rest) a (w.alloc (.cells Z ty)) := by
  subst hN
  exact wpList_store_new hgd ty x y ho cells Z hx hy hi hz h1 h
end Go.Proofs.Yteghbfkkpnlilaa

/-
  A region that draws its order, taken by hand: one operation that alone may come up; two of which either may come up first; one that yields in whatever world. No condition.
-/
namespace Go.Proofs.Yteghbfkkpnlilaa
open Go.RowKit
section
variable {P : Program} {ops : Array Oper} {Q : Exit → Act → World → Prop} {md : Region.Mode}
theorem do_one {i : Nat} {o : Oper} {fuel : Nat} {listed : Array Bool} {a : Act} {w : World} (hr : Region.ready md ops listed = [i]) (ho : ops[i]? = some o) (hw : Region.wanted o (yielded ops a.tmps) = true)
    (h : Oper.wp P o a w (fun a' w' => wpAny P md ops Q fuel (listed.setIfInBounds i true) a' w') Q) : wpAny P md ops Q (fuel + 1) listed a w :=
  wpAny_ready hr (by simp) (AllReady.cons ho (fun K hK => by rw [if_pos hw]; exact Oper.wp_mono (fun a w h => hK a w h) h) AllReady.nil)
theorem wp_ran {o : Oper} {a : Act} {w w' : World} {K : Act → World → Prop} {v : Value} (hv : (execOp a.eval o).run P w = .ok (.value v) w') (h : K (a.put o.dst v) w') : Oper.wp P o a w K Q := by
  unfold Oper.wp
  rw [hv]
  exact h
theorem wp_called {o : Oper} {a : Act} {w : World} {K : Act → World → Prop} {f : FuncId} {args : Array Value} {R : Ending → World → Prop} (hv : (execOp a.eval o).run P w = .ok (.enter f args) w) (hc : Calls P f args w R) (h : ∀ e w', R e w' → ∃ v, e = .returned v ∧ K (a.put o.dst v) w') : Oper.wp P o a w K Q := by
  unfold Oper.wp
  rw [hv, Oper.upon_enter]
  refine hc.mono fun e w' hr => ?_
  obtain ⟨v, rfl, hk⟩ := h e w' hr
  exact hk
variable {T : World → Prop} {i : Nat}
theorem any_begin {id : Nat} {a : Act} {w : World} (hm : P.follows .mixedOrders = true) (h : wpAny P .any ops (NoPanic Q) ops.size (Array.replicate ops.size false) a w.drew) : (Code.region id ops true).wp P Q a w :=
  wp_region_noPanic (wp_region_any hm h)
end
end Go.Proofs.Yteghbfkkpnlilaa

/-
  A region that draws its order, taken by hand, where one condition on the world holds behind each operation but the last one: what reads under the condition is taken first. No condition.
-/
namespace Go.Proofs.Yteghbfkkpnlilaa
open Go.RowKit
section
variable {P : Program} {ops : Array Oper} {Q : Exit → Act → World → Prop} {md : Region.Mode} {S : World → Prop} {L : Nat}
def wpAnyL (P : Program) (md : Region.Mode) (ops : Array Oper) (Q : Exit → Act → World → Prop) (S : World → Prop) (L : Nat) : Nat → Array Bool → Act → World → Prop
  | 0, l, a, w => Region.ready md ops l = [] ∧ Q .normal a w
  | f + 1, l, a, w => (Region.ready md ops l = [] → Q .normal a w) ∧ ∀ j ∈ Region.ready md ops l, wpOp P ops Q j (fun a' w' => (j ≠ L → S w') ∧ wpAnyL P md ops Q S L f (l.setIfInBounds j true) a' w') a w
theorem any_of_L : ∀ (f : Nat) (l : Array Bool) (a : Act) (w : World), wpAnyL P md ops Q S L f l a w → wpAny P md ops Q f l a w
  | 0, _, _, _, h => h
  | f + 1, _, _, _, h => ⟨h.1, fun j hj => wpOp_mono (fun a' w' h' => any_of_L f _ a' w' h'.2) (h.2 j hj)⟩
theorem L_first {i : Nat} {oi oL : Oper} {v : Value} (hi : ops[i]? = some oi) (hL : ops[L]? = some oL) (hw : oL.after.any (fun e => Region.binds md e && e.on == i) = true) (hsel : ∀ (j : Nat) (o : Oper) cs b, ops[j]? = some o → o.op ≠ .select cs b)
    (hQ : ∀ c a w, Q (.panic c) (a.put oi.dst v) w → Q (.panic c) a w) :
    ∀ (f : Nat) (l : Array Bool) (a : Act) (w : World),
      (∀ j oj, ops[j]? = some oj → j ≠ i → l.getD j true = false → (∀ e ∈ oj.after, Region.binds md e = true → e.on ≠ i) → oi.apart ops oj = true) →
      i ∈ Region.ready md ops l → YieldsIf P ops S oi v a → S w →
      wpAnyL P md ops Q S L f (l.setIfInBounds i true) (a.put oi.dst v) w → wpAnyL P md ops Q S L (f + 1) l a w
  | 0, l, a, w, _, hr, hy, hS, H => by
    refine ⟨fun h => (by rw [h] at hr; cases hr), fun j hj => ?_⟩
    by_cases hji : j = i
    · subst hji
      exact hy.wpOp hi hS ⟨fun _ => hS, H⟩
    · have := ready_mono hj hji
      rw [H.1] at this
      cases this
  | f + 1, l, a, w, hfree, hr, hy, hS, H => by
    refine ⟨fun h => (by rw [h] at hr; cases hr), fun j hj => ?_⟩
    by_cases hji : j = i
    · subst hji
      exact hy.wpOp hi hS ⟨fun _ => hS, H⟩
    · obtain ⟨hjun, oj, hoj, hall⟩ := mem_ready.1 hj
      have hiun : l.getD i true = false := (mem_ready.1 hr).1
      have h1 := H.2 j (ready_mono hj hji)
      have hnot : ∀ e ∈ oj.after, Region.binds md e = true → e.on ≠ i := fun e he hb heq => by
        have h2 := hall e he hb
        rw [heq] at h2
        rcases Nat.lt_or_ge i l.size with h' | h'
        · simp [h'] at hiun h2
          rw [hiun] at h2
          cases h2
        · simp [Array.getElem?_eq_none h'] at h2
      have hjL : j ≠ L := by
        rintro rfl
        rw [hL] at hoj
        injection hoj with hoj
        subst hoj
        obtain ⟨k, hk, he⟩ := Array.any_eq_true.1 hw
        simp only [Bool.and_eq_true, beq_iff_eq] at he
        exact hnot _ (Array.getElem_mem hk) he.1 he.2
      have h2 := wpOp_putIf hoj (hfree j oj hoj hji hjun hnot) (fun cs b => hsel i oi cs b hi) (fun cs b => hsel j oj cs b hoj) hQ hy h1
      refine wpOp_mono (fun a' w' h3 => ?_) h2
      obtain ⟨hy', hS', H'⟩ := h3
      rw [Array.setIfInBounds_comm _ _ (Ne.symm hji)] at H'
      refine ⟨fun _ => hS' hjL, L_first hi hL hw hsel hQ f _ a' w' (fun k ok hk hki hun hno => hfree k ok hk hki ?_ hno) (ready_mono hr (Ne.symm hji)) hy' (hS' hjL) H'⟩
      by_cases hjk : j = k
      · subst hjk; exact hjun
      · rw [getD_set_ne true hjk] at hun; exact hun
theorem L_take {i : Nat} {oi oL : Oper} {v : Value} {f : Nat} {l : Array Bool} {a : Act} {w : World} (hi : ops[i]? = some oi) (hL : ops[L]? = some oL) (hw : oL.after.any (fun e => Region.binds md e && e.on == i) = true) (hs : Region.noSelect ops = true) (hf : Region.free md ops l i = true) (hr : (Region.ready md ops l).contains i = true)
    (hQ : ∀ c a w, Q (.panic c) (a.put oi.dst v) w → Q (.panic c) a w) (hy : YieldsIf P ops S oi v a) (hS : S w)
    (h : wpAnyL P md ops Q S L f (l.setIfInBounds i true) (a.put oi.dst v) w) : wpAnyL P md ops Q S L (f + 1) l a w :=
  L_first hi hL hw (Region.noSelect_spec hs) hQ f l a w (Region.free_spec hi hf) (by simpa using hr) hy hS h
theorem S_first {i : Nat} {oi : Oper} {v : Value} (hi : ops[i]? = some oi) (hL : ops[L]? = none) (hsel : ∀ (j : Nat) (o : Oper) cs b, ops[j]? = some o → o.op ≠ .select cs b)
    (hQ : ∀ c a w, Q (.panic c) (a.put oi.dst v) w → Q (.panic c) a w) :
    ∀ (f : Nat) (l : Array Bool) (a : Act) (w : World),
      (∀ j oj, ops[j]? = some oj → j ≠ i → l.getD j true = false → (∀ e ∈ oj.after, Region.binds md e = true → e.on ≠ i) → oi.apart ops oj = true) →
      i ∈ Region.ready md ops l → YieldsIf P ops S oi v a → S w →
      wpAnyL P md ops Q S L f (l.setIfInBounds i true) (a.put oi.dst v) w → wpAnyL P md ops Q S L (f + 1) l a w
  | 0, l, a, w, _, hr, hy, hS, H => by
    refine ⟨fun h => (by rw [h] at hr; cases hr), fun j hj => ?_⟩
    by_cases hji : j = i
    · subst hji
      exact hy.wpOp hi hS ⟨fun _ => hS, H⟩
    · have := ready_mono hj hji
      rw [H.1] at this
      cases this
  | f + 1, l, a, w, hfree, hr, hy, hS, H => by
    refine ⟨fun h => (by rw [h] at hr; cases hr), fun j hj => ?_⟩
    by_cases hji : j = i
    · subst hji
      exact hy.wpOp hi hS ⟨fun _ => hS, H⟩
    · obtain ⟨hjun, oj, hoj, hall⟩ := mem_ready.1 hj
      have hiun : l.getD i true = false := (mem_ready.1 hr).1
      have h1 := H.2 j (ready_mono hj hji)
      have hnot : ∀ e ∈ oj.after, Region.binds md e = true → e.on ≠ i := fun e he hb heq => by
        have h2 := hall e he hb
        rw [heq] at h2
        rcases Nat.lt_or_ge i l.size with h' | h'
        · simp [h'] at hiun h2
          rw [hiun] at h2
          cases h2
        · simp [Array.getElem?_eq_none h'] at h2
      have hjL : j ≠ L := by
        rintro rfl
        rw [hL] at hoj
        cases hoj
      have h2 := wpOp_putIf hoj (hfree j oj hoj hji hjun hnot) (fun cs b => hsel i oi cs b hi) (fun cs b => hsel j oj cs b hoj) hQ hy h1
      refine wpOp_mono (fun a' w' h3 => ?_) h2
      obtain ⟨hy', hS', H'⟩ := h3
      rw [Array.setIfInBounds_comm _ _ (Ne.symm hji)] at H'
      refine ⟨fun _ => hS' hjL, S_first hi hL hsel hQ f _ a' w' (fun k ok hk hki hun hno => hfree k ok hk hki ?_ hno) (ready_mono hr (Ne.symm hji)) hy' (hS' hjL) H'⟩
      by_cases hjk : j = k
      · subst hjk; exact hjun
      · rw [getD_set_ne true hjk] at hun; exact hun
theorem S_take {i : Nat} {oi : Oper} {v : Value} {f : Nat} {l : Array Bool} {a : Act} {w : World} (hi : ops[i]? = some oi) (hL : ops[L]? = none) (hs : Region.noSelect ops = true) (hf : Region.free md ops l i = true) (hr : (Region.ready md ops l).contains i = true)
    (hQ : ∀ c a w, Q (.panic c) (a.put oi.dst v) w → Q (.panic c) a w) (hy : YieldsIf P ops S oi v a) (hS : S w)
    (h : wpAnyL P md ops Q S L f (l.setIfInBounds i true) (a.put oi.dst v) w) : wpAnyL P md ops Q S L (f + 1) l a w :=
  S_first hi hL (Region.noSelect_spec hs) hQ f l a w (Region.free_spec hi hf) (by simpa using hr) hy hS h
theorem L_done {f : Nat} {l : Array Bool} {a : Act} {w : World} (hr : Region.ready md ops l = []) (h : Q .normal a w) : wpAnyL P md ops Q S L f l a w := by
  cases f with
  | zero => exact ⟨hr, h⟩
  | succ f => exact ⟨fun _ => h, fun j hj => by rw [hr] at hj; cases hj⟩
theorem L_one {j : Nat} {o : Oper} {f : Nat} {l : Array Bool} {a : Act} {w : World} (hr : Region.ready md ops l = [j]) (ho : ops[j]? = some o) (hw : Region.wanted o (yielded ops a.tmps) = true)
    (h : Oper.wp P o a w (fun a' w' => S w' ∧ wpAnyL P md ops Q S L f (l.setIfInBounds j true) a' w') Q) : wpAnyL P md ops Q S L (f + 1) l a w := by
  refine ⟨fun h0 => absurd (hr ▸ h0) (by simp), fun k hk => ?_⟩
  rw [hr] at hk
  obtain rfl := List.mem_singleton.1 hk
  refine wpOp_step ho (fun K hK => ?_)
  rw [if_pos hw]
  exact Oper.wp_mono (fun a' w' h' => hK a' w' ⟨fun _ => h'.1, h'.2⟩) h
theorem L_last {o : Oper} {f : Nat} {l : Array Bool} {a : Act} {w : World} (hr : Region.ready md ops l = [L]) (ho : ops[L]? = some o) (hw : Region.wanted o (yielded ops a.tmps) = true) (hd : Region.ready md ops (l.setIfInBounds L true) = [])
    (h : Oper.wp P o a w (fun a' w' => Q .normal a' w') Q) : wpAnyL P md ops Q S L (f + 1) l a w := by
  refine ⟨fun h0 => absurd (hr ▸ h0) (by simp), fun k hk => ?_⟩
  rw [hr] at hk
  obtain rfl := List.mem_singleton.1 hk
  refine wpOp_step ho (fun K hK => ?_)
  rw [if_pos hw]
  refine Oper.wp_mono (fun a' w' h' => hK a' w' ⟨fun hne => absurd rfl hne, ?_⟩) h
  cases f with
  | zero => exact ⟨hd, h'⟩
  | succ f => exact ⟨fun _ => h', fun j hj => by rw [hd] at hj; cases hj⟩
theorem any_beginL {id : Nat} {a : Act} {w : World} (S : World → Prop) (L : Nat) (hm : P.follows .mixedOrders = true) (h : wpAnyL P .any ops (NoPanic Q) S L ops.size (Array.replicate ops.size false) a w.drew) : (Code.region id ops true).wp P Q a w :=
  wp_region_noPanic (wp_region_any hm (any_of_L _ _ _ _ h))
end
end Go.Proofs.Yteghbfkkpnlilaa

/-
  What the calls of a writer, nil or not, do. Conditions: the sizes.
-/
namespace Go.Proofs.Yteghbfkkpnlilaa
open Go.RowKit
set_option linter.unusedSimpArgs false
set_option maxRecDepth 100000
set_option linter.unusedVariables false
def Wr (w : World) (base : Nat) (F : List Nat) (p : Option Addr) (bs : List Nat) : Prop := (p = none ∧ F = [] ∧ bs = []) ∨ ∃ g, p = some ⟨g, 0, none⟩ ∧ WrAt w base F g bs
def plus (p : Option Addr) (bs news : List Nat) : List Nat := if p.isNone then [] else bs ++ news
def WTo (w : World) (base : Nat) (F : List Nat) (p : Option Addr) (bs : List Nat) (w' : World) : Prop := ∃ F', Wr w' base F' p bs ∧ Only F w w' ∧ Fresh w F F'
section
variable {w w' w1 : World} {base : Nat} {F : List Nat} {p : Option Addr} {bs news : List Nat}
theorem plus_plus (p : Option Addr) (bs a b : List Nat) : plus p (plus p bs a) b = plus p bs (a ++ b) := by
  cases p <;> simp [plus]
theorem plus_len (p : Option Addr) (bs a : List Nat) : (plus p bs a).length ≤ bs.length + a.length := by
  cases p <;> simp [plus]
theorem Wr.under (h : Wr w base F p bs) : Under w F := by
  rcases h with ⟨_, rfl, _⟩ | ⟨g, _, h⟩
  · exact fun k hk => by cases hk
  · exact h.under
theorem Wr.over (h : Wr w base F p bs) : Over base F := by
  rcases h with ⟨_, rfl, _⟩ | ⟨g, _, h⟩
  · exact fun k hk => by cases hk
  · exact h.over
theorem Wr.of (h : Wr w base F p bs) (hk : ∀ k, k ∈ F → w'.heap[k]? = w.heap[k]?) : Wr w' base F p bs := by
  rcases h with h | ⟨g, hp, h⟩
  · exact .inl h
  · exact .inr ⟨g, hp, h.of hk⟩
theorem Wr.below (h : Wr w base F p bs) (hb : Below w.heap.size w w') : Wr w' base F p bs := h.of fun k hk => hb.block k (h.under k hk)
theorem WTo.after {F1 : List Nat} (ho : Only F w w1) (hf : Fresh w F F1) (h : WTo w1 base F1 p bs w') : WTo w base F p bs w' := by
  obtain ⟨F2, h1, h2, h3⟩ := h
  exact ⟨F2, h1, ho.trans h2 hf, hf.trans h3 ho.size⟩
theorem WTo.since (hb : Below w.heap.size w w1) (h : WTo w1 base F p bs w') : WTo w base F p bs w' := h.after (Only.of_below hb F) (Fresh.refl _ _)
end
theorem put_w (w : World) (base : Nat) (F : List Nat) (p : Option Addr) (bs news : List Nat) (B : Nat) (A : Option Addr) (n c : Nat) (h : Wr w base F p bs) (hb : Bytes w B A n news) (hl : bs.length + n ≤ 10000000) (hB : base ≤ w.heap.size) :
    Calls Try.prog 84 #[.pointer p, .slice A n c] w fun e w' => e = .returned (.tuple #[]) ∧ WTo w base F p (plus p bs news) w' := by
  rcases h with ⟨rfl, rfl, rfl⟩ | ⟨g, rfl, h⟩
  · exact (put_nil _ w).mono fun e w' ⟨he, hw⟩ => ⟨he, [], .inl ⟨rfl, rfl, rfl⟩, by rw [← hw]; exact Only.refl _ _, Fresh.refl _ _⟩
  · exact (put_any w base g F bs news B A n c h hb hl hB).mono fun e w' ⟨he, F', h1, h2, h3⟩ => ⟨he, F', .inr ⟨g, rfl, h1⟩, h2, h3⟩
theorem eight_size : (Try.prog.info? 118).map (·.size) = some 8 := by kernel_rfl
theorem wnum_any (w : World) (base : Nat) (F : List Nat) (p : Option Addr) (bs : List Nat) (n : Int) (h : Wr w base F p bs) (hl : bs.length ≤ 9000000) (hB : base ≤ w.heap.size) :
    Calls Try.prog 46 #[.pointer p, .int .i64 n] w fun e w' => e = .returned (.tuple #[]) ∧ WTo w base F p (plus p bs (numB n)) w' := by
  have hz := eight_zero
  have hi : (Try.prog.info? 118).map (·.size) = some (u8s (numB n)).length := by rw [u8s_length, numB_len]; exact eight_size
  go_enter Try.func46, Try.ntmps46
  go_wp2_with fail
  refine (packed_any n w).mono ?_
  rintro e w1 ⟨rfl, b1⟩
  go_wp2_with (first | (refine wpList_store_newN rfl 118 (.tmp 4) (.tmp 6) rfl w1.heap.size rfl (u8s (numB n)) _ rfl rfl hi (by rw [u8s_length, numB_len]; rfl) (oneCell_u8s _) ?_))
  have B1 : Below w.heap.size w (w1.alloc (.cells (u8s (numB n)).toArray 118)) := b1.alloc b1.size _
  have hb8 : Bytes (w1.alloc (.cells (u8s (numB n)).toArray 118)) (w1.heap.size + 1) (some ⟨w1.heap.size, 0, none⟩) 8 (numB n) := by
    have := Bytes.new w1 (numB n) 118 (0, 0) (numB_lt n)
    rwa [numB_len] at this
  refine (put_w _ base F p bs (numB n) _ _ 8 8 (h.below B1) hb8 (by omega) (Nat.le_trans hB B1.size)).mono ?_
  rintro e w2 ⟨rfl, h2⟩
  go_wp2
  refine bodyPost_end (results_none rfl _ _ _) rfl ?_
  exact ⟨rfl, h2.since B1⟩
theorem wflag_any (w : World) (base : Nat) (F : List Nat) (p : Option Addr) (bs : List Nat) (f : Bool) (h : Wr w base F p bs) (hl : bs.length ≤ 9000000) (hB : base ≤ w.heap.size) :
    Calls Try.prog 44 #[.pointer p, .bool f] w fun e w' => e = .returned (.tuple #[]) ∧ WTo w base F p (plus p bs [if f then 1 else 0]) w' := by
  cases f with
  | true =>
    go_enter Try.func44, Try.ntmps44
    go_wp2_with fail
    have B1 := below_alloc w (.cells (u8s [1]).toArray 5)
    refine (put_w _ base F p bs [1] _ _ 1 1 (h.below B1) (Bytes.new w [1] 5 (0, 0) (by simp)) (by omega) (Nat.le_trans hB B1.size)).mono ?_
    rintro e w2 ⟨rfl, h2⟩
    go_wp2
    refine bodyPost_end (results_none rfl _ _ _) rfl ?_
    exact ⟨rfl, h2.since B1⟩
  | false =>
    go_enter Try.func44, Try.ntmps44
    go_wp2_with fail
    have B1 := below_alloc w (.cells (u8s [0]).toArray 5)
    refine (put_w _ base F p bs [0] _ _ 1 1 (h.below B1) (Bytes.new w [0] 5 (0, 0) (by simp)) (by omega) (Nat.le_trans hB B1.size)).mono ?_
    rintro e w2 ⟨rfl, h2⟩
    go_wp2
    refine bodyPost_end (results_none rfl _ _ _) rfl ?_
    exact ⟨rfl, h2.since B1⟩
theorem Bytes.only {w w' : World} {B n : Nat} {A : Option Addr} {bs F : List Nat} (h : Bytes w B A n bs) (ho : Only F w w') (ha : ∀ a, A = some a → 0 < n → a.block ∉ F) : Bytes w' B A n bs :=
  ⟨⟨h.1.1, fun hn => by
    obtain ⟨ad, e, hB, hc⟩ := h.1.2 hn
    exact ⟨ad, e, hB, fun j u hu => (ho.cell (World.block_lt_of_cell? w _ (hc j u hu)) (by rw [block_of_add]; exact ha ad e hn)).trans (hc j u hu)⟩⟩, h.2⟩
theorem counted_bytes (w : World) (base : Nat) (F : List Nat) (p : Option Addr) (bs news : List Nat) (B : Nat) (A : Option Addr) (n c : Nat) (h : Wr w base F p bs) (hb : Bytes w B A n news) (hlt : ∀ a, A = some a → 0 < n → a.block ∉ F) (hl : bs.length + n ≤ 8000000) (hB : base ≤ w.heap.size) :
    Calls Try.prog 85 #[.pointer p, .slice A n c] w fun e w' => e = .returned (.tuple #[]) ∧ WTo w base F p (plus p bs (numB n ++ news)) w' := by
  go_enter Try.func85, Try.ntmps85
  go_wp2_with fail
  refine (wnum_any w base F p bs n h (by omega) hB).mono ?_
  rintro e w1 ⟨rfl, F1, h1, o1, f1⟩
  go_wp2_with fail
  have := plus_len p bs (numB n)
  rw [numB_len] at this
  have hb1 := hb.only o1 hlt
  refine (put_w w1 base F1 p (plus p bs (numB n)) news B A n c h1 hb1 (by omega) (Nat.le_trans hB o1.size)).mono ?_
  rintro e w2 ⟨rfl, h2⟩
  rw [plus_plus] at h2
  go_wp2
  refine bodyPost_end (results_none rfl _ _ _) rfl ?_
  exact ⟨rfl, h2.after o1 f1⟩
theorem wbytes_any (w : World) (base : Nat) (F : List Nat) (p : Option Addr) (bs news : List Nat) (B : Nat) (A : Option Addr) (n c : Nat) (h : Wr w base F p bs) (hb : Bytes w B A n news) (hlt : ∀ a, A = some a → 0 < n → a.block ∉ F) (hl : bs.length + n ≤ 8000000) (hB : base ≤ w.heap.size) :
    Calls Try.prog 45 #[.pointer p, .slice A n c] w fun e w' => e = .returned (.tuple #[]) ∧ WTo w base F p (plus p bs (numB n ++ news)) w' := by
  go_enter Try.func45, Try.ntmps45
  go_wp2_with fail
  refine (counted_bytes w base F p bs news B A n c h hb hlt hl hB).mono ?_
  rintro e w2 ⟨rfl, h2⟩
  go_wp2
  refine bodyPost_end (results_none rfl _ _ _) rfl ?_
  exact ⟨rfl, h2⟩
def i64s (l : List Int) : List Value := l.map (.int .i64)
theorem i64s_length (l : List Int) : (i64s l).length = l.length := by simp [i64s]
def Ints (w : World) (B : Nat) (A : Option Addr) (n : Nat) (l : List Int) : Prop := Reads w B 1 A n (i64s l)
theorem Ints.len {w : World} {B n : Nat} {A : Option Addr} {l : List Int} (h : Ints w B A n l) : l.length = n := by have := h.1; rw [i64s_length] at this; omega
theorem Ints.only {w w' : World} {B n : Nat} {A : Option Addr} {l : List Int} {F : List Nat} (h : Ints w B A n l) (ho : Only F w w') (ha : ∀ a, A = some a → 0 < n → a.block ∉ F) : Ints w' B A n l :=
  ⟨h.1, fun hn => by
    obtain ⟨ad, e, hB, hc⟩ := h.2 hn
    exact ⟨ad, e, hB, fun j u hu => (ho.cell (World.block_lt_of_cell? w _ (hc j u hu)) (by rw [block_of_add]; exact ha ad e hn)).trans (hc j u hu)⟩⟩
theorem Ints.at_ {w : World} {B n k : Nat} {A : Option Addr} {l : List Int} (h : Ints w B A n l) (hk : k < n) : ∃ ad x, A = some ad ∧ l[k]? = some x ∧ w.cell? (ad.add k) = some (.int .i64 x) := by
  obtain ⟨ad, u, e, hb, hx, hc⟩ := Reads.at_ h hk
  have hl : k < l.length := by have := h.len; omega
  refine ⟨ad, l[k], e, List.getElem?_eq_getElem hl, ?_⟩
  rw [hc, ← hx]
  simp [i64s, hl]
def numsB (l : List Int) : List Nat := numB l.length ++ l.flatMap numB
theorem numsB_len (l : List Int) : (numsB l).length = 8 + 8 * l.length := by
  have : (l.flatMap numB).length = 8 * l.length := by
    induction l with
    | nil => rfl
    | cons x l ih => rw [List.flatMap_cons, List.length_append, ih, numB_len, List.length_cons]; omega
  rw [numsB, List.length_append, numB_len, this]
theorem wnums_any (w : World) (base : Nat) (F : List Nat) (p : Option Addr) (bs : List Nat) (B : Nat) (A : Option Addr) (n c : Nat) (l : List Int) (h : Wr w base F p bs) (hb : Ints w B A n l) (hlt : ∀ a, A = some a → 0 < n → a.block ∉ F) (hl : bs.length + 8 * n ≤ 8000000) (hB : base ≤ w.heap.size) :
    Calls Try.prog 47 #[.pointer p, .slice A n c] w fun e w' => e = .returned (.tuple #[]) ∧ WTo w base F p (plus p bs (numsB l)) w' := by
  have hn := hb.len
  have H := Lib.hid hb
  clear hb
  go_enter Try.func47, Try.ntmps47
  go_wp2_with fail
  refine (wnum_any w base F p bs n h (by omega) hB).mono ?_
  rintro e w1 ⟨rfl, h1⟩
  have H1 := Lib.hid h1
  clear h1
  go_wp2
  go_loopw [12] (fun i wr => ∃ k : Nat, k ≤ n ∧ i = .int .i64 k ∧ WTo w base F p (plus p bs (numB n ++ (l.take k).flatMap numB)) wr) (fun i _ => n - (intOf i).toNat)
  case atStart => exact ⟨0, Nat.zero_le _, rfl, by simpa using H1.out⟩
  case round =>
    obtain ⟨k, hk, rfl, F2, h2, o2, f2⟩ := hrel
    by_cases hlt2 : k < n
    · obtain ⟨ad, x, rfl, hx, hc⟩ := (H.out.only o2 hlt).at_ hlt2
      have H2 := Lib.hid h2
      have Hx := Lib.hid hx
      have hlen : (plus p bs (numB n ++ (l.take k).flatMap numB)).length ≤ 9000000 := by
        have h3 := plus_len p bs (numB n ++ (l.take k).flatMap numB)
        have h4 := numsB_len (l.take k)
        rw [numsB, List.length_append, numB_len] at h4
        rw [List.length_append, numB_len] at h3
        have : (l.take k).length ≤ n := by rw [List.length_take]; omega
        omega
      clear h2 hx
      go_wp2_with fail
      refine (wnum_any wr base F2 p _ x H2.out hlen (Nat.le_trans hB o2.size)).mono ?_
      rintro e w3 ⟨rfl, h3⟩
      rw [plus_plus] at h3
      have H3 := Lib.hid (h3.after o2 f2)
      clear h3
      go_wp2
      go_roundw
      case rel =>
        refine ⟨k + 1, by omega, by go_num, ?_⟩
        have e : l.take (k + 1) = l.take k ++ [x] := by rw [List.take_add_one, Hx.out]; rfl
        rw [e, List.flatMap_append, ← List.append_assoc]
        simpa using H3.out
      case measure => simp [intOf]; omega
    · obtain rfl : k = n := by omega
      have H2 : Hid (WTo w base F p (plus p bs (numB k ++ (l.take k).flatMap numB)) wr) := Lib.hid ⟨F2, h2, o2, f2⟩
      clear h2 o2 f2
      go_wp2
      refine bodyPost_end (results_none rfl _ _ _) rfl ?_
      refine ⟨rfl, ?_⟩
      have := H2.out
      rw [List.take_of_length_le (by omega), ← hn] at this
      exact this
theorem out_any (w : World) (base : Nat) (F : List Nat) (p : Option Addr) (bs : List Nat) (h : Wr w base F p bs) (hl : bs.length ≤ 9000000) :
    Calls Try.prog 48 #[.pointer p] w fun e w' => ∃ v, e = .returned v ∧ Own w' w.heap.size v bs.length bs ∧ Below w.heap.size w w' := by
  rcases h with ⟨rfl, rfl, rfl⟩ | ⟨g, rfl, v, rfl, h1, h2, h3, h4⟩
  · go_enter Try.func48, Try.ntmps48
    go_wp2
    go_ret
    exact ⟨_, rfl, Own.nil _ _, Below.refl _ _⟩
  · obtain ⟨A1, c1, rfl, -, -, -⟩ := h2.form
    have hc : w.cell? ⟨g, 0, none⟩ = some (.slice A1 bs.length c1) := by rw [h1.cell]; rfl
    go_enter Try.func48, Try.ntmps48
    go_wp2_with fail
    refine (clone_any A1 bs.length c1 bs w w.heap.size (by omega) (h2.bytes h4)).mono ?_
    rintro e w' ⟨v, rfl, h5, h6⟩
    go_wp2
    go_ret
    exact ⟨v, rfl, h5, h6⟩
end Go.Proofs.Yteghbfkkpnlilaa

/-
  Objects with clones in memory: how they lie, how they are read. No condition but the sizes.
-/
namespace Go.Proofs.Yteghbfkkpnlilaa
open Go.RowKit
set_option linter.unusedSimpArgs false
set_option linter.unusedVariables false
set_option maxRecDepth 100000
theorem Ints.since {w w' : World} {B n : Nat} {A : Option Addr} {l : List Int} (h : Ints w B A n l) (hb : Below w.heap.size w w') : Ints w' B A n l := Reads.since h hb
theorem Ints.more {w : World} {B B' n : Nat} {A : Option Addr} {l : List Int} (h : Ints w B A n l) (hB : B ≤ B') : Ints w B' A n l := Reads.more h hB
theorem Ints.drew {w : World} {B n : Nat} {A : Option Addr} {l : List Int} (h : Ints w B A n l) : Ints w.drew B A n l := h
structure CA where
  sn : List Int
  dt : List Nat
  S : Option Addr
  cs : Nat
  D : Option Addr
  cd : Nat
def CA.v (c : CA) : ClV := ⟨c.sn, c.dt⟩
def CA.cells (c : CA) : List Value := [.slice c.S c.sn.length c.cs, .slice c.D c.dt.length c.cd]
theorem CA.cells_len (c : CA) : c.cells.length = 2 := rfl
theorem CA.cells_one (c : CA) : ∀ u ∈ c.cells, u.oneCell' = true := by
  intro u hu
  simp [CA.cells] at hu
  rcases hu with rfl | rfl <;> rfl
structure CA.R (c : CA) (w : World) : Prop where
  sn : Ints w w.heap.size c.S c.sn.length c.sn
  dt : Bytes w w.heap.size c.D c.dt.length c.dt
  i1 : ∀ s ∈ c.sn, -9223372036854775808 ≤ s ∧ s ≤ 9223372036854775807
  s1 : c.sn.length ≤ 9223372036854775807
  d1 : c.dt.length ≤ 9223372036854775807
  s2 : c.sn.length ≤ c.cs
  d2 : c.dt.length ≤ c.cd
theorem CA.R.since {c : CA} {w w' : World} (h : c.R w) (hb : Below w.heap.size w w') : c.R w' := ⟨(h.sn.since hb).more hb.size, (h.dt.since hb).more hb.size, h.i1, h.s1, h.d1, h.s2, h.d2⟩
structure OA where
  th : Bool
  dt : List Nat
  D : Option Addr
  cd : Nat
  sq : Int
  C : Option Addr
  cc : Nat
  cl : List CA
def OA.vs (o : OA) : List ClV := o.cl.map CA.v
def OA.v (o : OA) : OV := ⟨o.th, o.dt, o.sq, o.vs⟩
def OA.cs (o : OA) : Array Value := #[.bool o.th, .slice o.D o.dt.length o.cd, .int .i64 o.sq, .slice o.C o.cl.length o.cc]
def OA.zero : OA := ⟨false, [], none, 0, 0, none, 0, []⟩
theorem OA.vs_len (o : OA) : o.vs.length = o.cl.length := by simp [OA.vs]
structure OA.R (o : OA) (w : World) : Prop where
  dt : Bytes w w.heap.size o.D o.dt.length o.dt
  row : Reads w w.heap.size 2 o.C o.cl.length (o.cl.flatMap CA.cells)
  cl : ∀ c ∈ o.cl, c.R w
  q1 : -9223372036854775808 ≤ o.sq
  q2 : o.sq ≤ 9223372036854775807
  d1 : o.dt.length ≤ 9223372036854775807
  c1 : o.cl.length ≤ 9223372036854775807
  d2 : o.dt.length ≤ o.cd
  c2 : o.cl.length ≤ o.cc
theorem OA.R.since {o : OA} {w w' : World} (h : o.R w) (hb : Below w.heap.size w w') : o.R w' := ⟨(h.dt.since hb).more hb.size, (h.row.since hb).more hb.size, fun c hc => (h.cl c hc).since hb, h.q1, h.q2, h.d1, h.c1, h.d2, h.c2⟩
theorem OA.zero_R (w : World) : OA.zero.R w := ⟨⟨Reads.none_, fun b hb => (by cases hb)⟩, Reads.none_, fun c hc => (by cases hc), by decide, by decide, by decide, by decide, by decide, by decide⟩
theorem OA.R.get {o : OA} {w : World} (h : o.R w) {k : Nat} {c : CA} (hk : o.cl[k]? = some c) : ∃ ad, o.C = some ad ∧ ad.block < w.heap.size ∧ ∀ j v, c.cells[j]? = some v → w.cell? ((ad.add (k * 2)).add j) = some v := by
  have hl := (List.getElem?_eq_some_iff.1 hk).1
  obtain ⟨ad, e, hb, hc⟩ := h.row.2 (by omega)
  refine ⟨ad, e, hb, fun j v hj => ?_⟩
  rw [add_of_add]
  have hj2 : j < 2 := by have := (List.getElem?_eq_some_iff.1 hj).1; rwa [CA.cells_len] at this
  exact hc _ v (by rw [flat_at CA.cells 2 CA.cells_len o.cl k j c hk hj2]; exact hj)
structure OA.Sm (o : OA) : Prop where
  dt : o.dt.length ≤ 10000
  cn : o.cl.length ≤ 1000
  cl : ∀ c ∈ o.cl, c.sn.length ≤ 10000 ∧ c.dt.length ≤ 10000
theorem OA.zero_Sm : OA.zero.Sm := ⟨by decide, by decide, fun c hc => (by cases hc)⟩
structure XA where
  sq : Int
  sn : List Int
  S : Option Addr
  cs : Nat
def XA.v (c : XA) : CxV := ⟨c.sq, c.sn⟩
def XA.cells (c : XA) : Array Value := #[.int .i64 c.sq, .slice c.S c.sn.length c.cs]
structure XA.R (c : XA) (w : World) : Prop where
  sn : Ints w w.heap.size c.S c.sn.length c.sn
  i1 : ∀ s ∈ c.sn, -9223372036854775808 ≤ s ∧ s ≤ 9223372036854775807
  q1 : -9223372036854775808 ≤ c.sq
  q2 : c.sq ≤ 9223372036854775807
  s1 : c.sn.length ≤ 9223372036854775807
  s2 : c.sn.length ≤ c.cs
theorem XA.R.since {c : XA} {w w' : World} (h : c.R w) (hb : Below w.heap.size w w') : c.R w' := ⟨(h.sn.since hb).more hb.size, h.i1, h.q1, h.q2, h.s1, h.s2⟩
theorem run_loadVar_scl (w : World) (p : Addr) (s : CA) (hc : ∀ j v, s.cells[j]? = some v → w.cell? (p.add j) = some v) : (loadVar 79 p).run Try.prog w = .ok (.agg s.cells.toArray) w := by
  have hl : (loadCells p 2).run Try.prog w = .ok s.cells.toArray w := run_loadCells_list (P := Try.prog) w p s.cells hc
  have hagg : (isAgg 79).run Try.prog w = .ok true w := by
    unfold isAgg
    rw [Sem.run_bind, run_underlying Try.underlying79 w]
    rfl
  have hi : (Try.prog.info? 79).map (·.size) = some 2 := by kernel_rfl
  cases hq : Try.prog.info? 79 with
  | none => simp [hq] at hi
  | some i =>
    have hs : i.size = 2 := by simpa [hq] using hi
    simp [loadVar, Sem.run_bind, hagg, sizeOf, typeInfo, hq, hs, hl]
theorem wpList_load_scl {ops : Array Oper} {rest : List Oper} {op : Oper} {a : Act} {w : World} {Q : Exit → Act → World → Prop} (hgd : op.guard = none) (x : Operand) (ho : op.op = .load 79 x)
    (p : Addr) (hx : a.eval x = .pointer (some p)) (s : CA) (hc : ∀ j v, s.cells[j]? = some v → w.cell? (p.add j) = some v)
    (h : wpList Try.prog ops Q rest (a.put op.dst (.agg #[.slice s.S s.sn.length s.cs, .slice s.D s.dt.length s.cd])) w) : wpList Try.prog ops Q (op :: rest) a w :=
  wpList_plain hgd fun _ hK => by
    unfold Oper.wp execOp
    simp only [ho, hx, Instr.loadAt, Instr.sureAddr, Sem.run_bind, Sem.run_pure, Result.andThen_ok, run_loadVar_scl w p s hc]
    exact hK _ _ h
theorem run_loadVar_rcl (w : World) (p : Addr) (s : CA) (hc : ∀ j v, s.cells[j]? = some v → w.cell? (p.add j) = some v) : (loadVar 78 p).run Try.prog w = .ok (.agg s.cells.toArray) w := by
  have hl : (loadCells p 2).run Try.prog w = .ok s.cells.toArray w := run_loadCells_list (P := Try.prog) w p s.cells hc
  have hagg : (isAgg 78).run Try.prog w = .ok true w := by
    unfold isAgg
    rw [Sem.run_bind, run_underlying Try.underlying78 w]
    rfl
  have hi : (Try.prog.info? 78).map (·.size) = some 2 := by kernel_rfl
  cases hq : Try.prog.info? 78 with
  | none => simp [hq] at hi
  | some i =>
    have hs : i.size = 2 := by simpa [hq] using hi
    simp [loadVar, Sem.run_bind, hagg, sizeOf, typeInfo, hq, hs, hl]
theorem wpList_load_rcl {ops : Array Oper} {rest : List Oper} {op : Oper} {a : Act} {w : World} {Q : Exit → Act → World → Prop} (hgd : op.guard = none) (x : Operand) (ho : op.op = .load 78 x)
    (p : Addr) (hx : a.eval x = .pointer (some p)) (s : CA) (hc : ∀ j v, s.cells[j]? = some v → w.cell? (p.add j) = some v)
    (h : wpList Try.prog ops Q rest (a.put op.dst (.agg #[.slice s.S s.sn.length s.cs, .slice s.D s.dt.length s.cd])) w) : wpList Try.prog ops Q (op :: rest) a w :=
  wpList_plain hgd fun _ hK => by
    unfold Oper.wp execOp
    simp only [ho, hx, Instr.loadAt, Instr.sureAddr, Sem.run_bind, Sem.run_pure, Result.andThen_ok, run_loadVar_rcl w p s hc]
    exact hK _ _ h
end Go.Proofs.Yteghbfkkpnlilaa
