/-
  Bytes that a call collects in a slice of its own: make, append, over this program's numbers. No condition but the sizes.
-/
import Derived.Test.YtldnghmgdmjljaaRows
import Derived.Test.YtldnghmgdmjljaaMem
import Derived.WalkKit
import Derived.ProofKit
import Derived.Laws.BytesArg
namespace Go.Proofs.Ytldnghmgdmjljaa
open Go.RowKit
theorem byte_info : (Try.prog.info? 5).map (fun i => (i.zero, i.size, i.bytes)) = some (some (.int .u8 0), 1, 1) := by kernel_rfl

/-- the slice value v, of n bytes, is the call's own: it is nil, or starts a block from base on, whose first cells are the bytes bs -/
def Own (w : World) (base : Nat) (v : Value) (n : Nat) (bs : List Nat) : Prop := w.ownsRow base 5 1 v n (u8s bs)

theorem Own.nil (w : World) (base : Nat) : Own w base (.slice none 0 0) 0 [] := World.ownsRow_nil w base _ 1
theorem Own.new (w : World) (base : Nat) (hb : base ≤ w.heap.size) : Own (w.alloc (.cells #[] 5)) base (.slice (some ⟨w.heap.size, 0, none⟩) 0 0) 0 [] := by
  have := World.ownsRow_made (base := base) (e := 5) (size := 1) w #[] 0 hb (by simp [maxLen]) (by simp)
  simpa [Own, u8s] using this
theorem Own.len {w : World} {base : Nat} {v : Value} {n : Nat} {bs : List Nat} (h : Own w base v n bs) : bs.length = n := by
  have := h.1
  rw [u8s_length] at this
  omega
theorem Own.form {w : World} {base : Nat} {v : Value} {n : Nat} {bs : List Nat} (h : Own w base v n bs) :
    ∃ (A : Option Addr) (cap : Nat), v = .slice A n cap ∧ n ≤ cap ∧ cap ≤ maxLen ∧ (A = none ∧ n = 0 ∧ cap = 0 ∨ ∃ g, A = some ⟨g, 0, none⟩ ∧ base ≤ g ∧ g < w.heap.size) := by
  rcases h.2 with ⟨rfl, hx⟩ | ⟨g, cap, cur, rfl, hbg, hg, hnc, hcm, hcs, hpre⟩
  · have : n = 0 := by have := h.1; rw [hx] at this; simp at this; omega
    subst this
    exact ⟨none, 0, rfl, by omega, by simp [maxLen], .inl ⟨rfl, rfl, rfl⟩⟩
  · have hlt : g < w.heap.size := by
      rcases Nat.lt_or_ge g w.heap.size with h1 | h1
      · exact h1
      · rw [Array.getElem?_eq_none h1] at hg; cases hg
    exact ⟨some ⟨g, 0, none⟩, cap, rfl, hnc, hcm, .inr ⟨g, rfl, hbg, hlt⟩⟩
theorem Own.bytes {w : World} {base : Nat} {A : Option Addr} {n c : Nat} {bs : List Nat} (h : Own w base (.slice A n c) n bs) (hb : ∀ b ∈ bs, b < 256) : Bytes w w.heap.size A n bs :=
  ⟨Reads.of_own h, hb⟩
theorem Own.alloc {w : World} {base : Nat} {v : Value} {n : Nat} {bs : List Nat} (h : Own w base v n bs) (o : Obj) : Own (w.alloc o) base v n bs := World.ownsRow.alloc h o
theorem Own.drew {w : World} {base : Nat} {v : Value} {n : Nat} {bs : List Nat} (h : Own w base v n bs) : Own w.drew base v n bs := h
theorem Own.drewN {w : World} {base : Nat} {v : Value} {n : Nat} {bs : List Nat} (h : Own w base v n bs) (k : Nat) : Own (w.drewN k) base v n bs := h
theorem Own.below {w w' : World} {base : Nat} {v : Value} {n : Nat} {bs : List Nat} (h : Own w base v n bs) (hb : Below w.heap.size w w') : Own w' base v n bs :=
  World.ownsRow.kept (row := none) h ⟨hb.os, hb.tape, hb.output, hb.size, fun i hi _ => hb.block i hi⟩ (by cases v.ownBlock <;> simp)

theorem Own.weaken {w : World} {base base' : Nat} {v : Value} {n : Nat} {bs : List Nat} (h : Own w base v n bs) (hb : base' ≤ base) : Own w base' v n bs := by
  refine ⟨h.1, ?_⟩
  rcases h.2 with h | ⟨g, cap, cur, e, hg, r⟩
  · exact .inl h
  · exact .inr ⟨g, cap, cur, e, Nat.le_trans hb hg, r⟩
theorem Own.grown {w w' : World} {base : Nat} {v : Value} {n : Nat} {bs : List Nat} {row : Option Nat} (h : Own w base v n bs) (hg : w.grownBy w' row) (hne : v.ownBlock = none ∨ v.ownBlock ≠ row) : Own w' base v n bs :=
  World.ownsRow.kept h hg hne

theorem Own.stored {w : World} {base g n cap : Nat} {bs : List Nat} (h : Own w base (.slice (some ⟨g, 0, none⟩) n cap) n bs) (j b : Nat) :
    Own (w.setCell ⟨g, j, none⟩ (.int .u8 (b : Int))) base (.slice (some ⟨g, 0, none⟩) n cap) n (bs.set j b) := by
  have := (World.ownsRow.stored h j (.int .u8 (b : Int))).1
  unfold Own
  rwa [u8s, List.map_set]
theorem Own.cell {w : World} {base g n cap : Nat} {bs : List Nat} (h : Own w base (.slice (some ⟨g, 0, none⟩) n cap) n bs) {j b : Nat} (hj : bs[j]? = some b) : w.cell? ⟨g, j, none⟩ = some (.int .u8 (b : Int)) := by
  have hl : j < bs.length := by
    rcases Nat.lt_or_ge j bs.length with h1 | h1
    · exact h1
    · rw [List.getElem?_eq_none h1] at hj; cases hj
  rw [World.ownsRow.cellAt h j (by have := h.len; omega)]
  simp [u8s, u8, hj]
theorem Own.frozen {w : World} {base g n cap : Nat} {bs : List Nat} (h : Own w base (.slice (some ⟨g, 0, none⟩) n cap) n bs) (j : Nat) : w.frozen? ⟨g, j, none⟩ = false := World.ownsRow.frozenAt h j

/-- append of bytes that lie somewhere onto bytes of the call's own -/
theorem app_bytes {w : World} {ops : Array Oper} {rest : List Oper} {o : Oper} {a : Act} {Q : Exit → Act → World → Prop} (s x : Operand)
    (hgd : o.guard = none) (ho : o.op = .call { callee := .builtin .append, args := #[s, x], argTypes := #[23, 23] })
    (base : Nat) (v : Value) (n : Nat) (bs : List Nat) (hs : a.eval s = v) (hown : Own w base v n bs)
    (B : Nat) (A : Option Addr) (m c : Nat) (news : List Nat) (hx : a.eval x = .slice A m c) (hr : Bytes w B A m news)
    (hsz : n + m ≤ 100000000000000) (hbase : base ≤ w.heap.size)
    (h : ∀ v' w', Own w' base v' (n + m) (bs ++ news) → w.grownBy w' v.ownBlock → (v'.ownBlock = v.ownBlock ∨ v'.ownBlock = some w.heap.size) → wpList Try.prog ops Q rest (a.put o.dst v') w') :
    wpList Try.prog ops Q (o :: rest) a w := by
  obtain ⟨i0, hi0, hz0, hz1, hz2⟩ := info_parts byte_info
  refine wpList_append_any w hgd s x _ ho base 5 i0 _ 1 1 Try.underlying23 hi0 hz0 hz1 hz2 rfl (by omega) v n (u8s bs) hs hown B A m c (u8s news) hx hr.1 (oneCell_u8s _)
    (by simp only [maxLen]; omega) (by omega) hbase ?_
  intro v' w' h1 h2 h3
  exact h v' w' (by unfold Own; rw [u8s, List.map_append]; exact h1) h2 h3

/-- the same at a step of a region that draws its order -/
theorem step_app_bytes {w : World} {ops : Array Oper} {o : Oper} {a : Act} {K : Act → World → Prop} {Q : Exit → Act → World → Prop} {E : Prop} (s x : Operand)
    (hgd : o.guard = none) (ho : o.op = .call { callee := .builtin .append, args := #[s, x], argTypes := #[23, 23] })
    (base : Nat) (v : Value) (n : Nat) (bs : List Nat) (hs : a.eval s = v) (hown : Own w base v n bs)
    (B : Nat) (A : Option Addr) (m c : Nat) (news : List Nat) (hx : a.eval x = .slice A m c) (hr : Bytes w B A m news)
    (hsz : n + m ≤ 100000000000000) (hbase : base ≤ w.heap.size)
    (h : ∀ v' w', Own w' base v' (n + m) (bs ++ news) → w.grownBy w' v.ownBlock → (v'.ownBlock = v.ownBlock ∨ v'.ownBlock = some w.heap.size) → K (a.put o.dst v') w') :
    if Region.wanted o (yielded ops a.tmps) = true then Oper.wp Try.prog o a w K Q else E := by
  obtain ⟨i0, hi0, hz0, hz1, hz2⟩ := info_parts byte_info
  refine step_append_any w hgd s x _ ho base 5 i0 _ 1 1 Try.underlying23 hi0 hz0 hz1 hz2 rfl (by omega) v n (u8s bs) hs hown B A m c (u8s news) hx hr.1 (oneCell_u8s _)
    (by simp only [maxLen]; omega) (by omega) hbase ?_
  intro v' w' h1 h2 h3
  exact h v' w' (by unfold Own; rw [u8s, List.map_append]; exact h1) h2 h3
theorem Own.apart {w : World} {base : Nat} {v : Value} {n : Nat} {bs : List Nat} (h : Own w base v n bs) {i : Nat} (hi : i < base) : some i ≠ v.ownBlock := by
  intro e
  have := (World.ownsRow.lt h i e.symm).1
  omega

/-- make([]byte, 0, n) -/
theorem make_bytes {w : World} {ops : Array Oper} {rest : List Oper} {o : Oper} {a : Act} {Q : Exit → Act → World → Prop} (l c : Operand)
    (hg : o.guard = none) (hop : o.op = Op.makeSlice 23 l c) (base : Nat) (kl kc : IntKind) (C : Int) (n : Nat) (hl : a.eval l = .int kl 0) (hc : a.eval c = .int kc C)
    (hC : C = (n : Int)) (hn : n ≤ 100000000000000) (hbase : base ≤ w.heap.size)
    (hK : ∀ w', Own w' base (.slice (some ⟨w.heap.size, 0, none⟩) 0 n) 0 [] → w.grownBy w' none → wpList Try.prog ops Q rest (a.put o.dst (.slice (some ⟨w.heap.size, 0, none⟩) 0 n)) w') :
    wpList Try.prog ops Q (o :: rest) a w := by
  obtain ⟨i0, hi0, hz0, hz1, hz2⟩ := info_parts byte_info
  exact wpList_make_own w hg l c _ hop base 5 i0 _ 1 Try.underlying23 hi0 hz0 hz1 kl kc C n hl hc hC (by rw [hz2]; omega) (by simp only [maxLen]; omega) hbase hK

/-- bytes as a string -/
def strOf (bs : List Nat) : ByteArray := strOfNums (bs.map fun (b : Nat) => (b : Int))
theorem str_of {P : Program} {w : World} {B n : Nat} {A : Option Addr} {bs : List Nat} (h : Bytes w B A n bs) (c : Nat) (src dst e : TypeId)
    (hs : P.underlying src = some (.slice e)) (he : P.underlying e = some (.int .u8)) (hd : P.underlying dst = some .string) :
    (convert src dst (.slice A n c)).run P w = .ok (.string (strOf bs)) w := by
  rw [run_convert_bytes_string w src dst e _ n c hs he hd]
  rcases A with _ | a
  · have hn : n = 0 := by
      rcases Nat.eq_zero_or_pos n with h0 | h0
      · exact h0
      · obtain ⟨ad, h1, _⟩ := h.1.2 h0
        cases h1
    have hb : bs = [] := List.eq_nil_of_length_eq_zero (by rw [h.len, hn])
    subst hb
    simp [Conv.bytesToString, strOf, strOfNums]
    rfl
  · have hcell : ∀ j v, (u8s bs)[j]? = some v → w.cell? (a.add j) = some v := by
      intro j v hj
      have hlt : j < n := by
        rcases Nat.lt_or_ge j n with h1 | h1
        · exact h1
        · rw [List.getElem?_eq_none (by rw [u8s_length, h.len]; exact h1)] at hj
          cases hj
      obtain ⟨ad, he', _, hc⟩ := h.1.2 (by omega)
      injection he' with he'
      subst he'
      exact hc j v hj
    have hl : (loadCells a n).run P w = .ok ((bs.map fun (b : Nat) => (b : Int)).map (Value.int .u8)).toArray w := by
      have h1 := run_loadCells_list (P := P) w a (u8s bs) hcell
      rw [u8s_length, h.len] at h1
      rw [h1, List.map_map]
      rfl
    rw [run_bytesToString w _ n c _ hl, foldl_push_bytes]
    simp [strOf, strOfNums, ByteArray.empty, ByteArray.emptyWithCapacity]
    rfl

/-- a row stays below what the call may write -/
theorem below_own {B : Nat} {w0 w w' : World} {base : Nat} {v : Value} {n : Nat} {bs : List Nat} (h : Below B w0 w) (hown : Own w base v n bs) (hB : B ≤ base) (hg : w.grownBy w' v.ownBlock) (hs : B ≤ w.heap.size) : Below B w0 w' :=
  h.grown hg hs (fun k hk => by have := (World.ownsRow.lt hown k hk).1; omega)
end Go.Proofs.Ytldnghmgdmjljaa
