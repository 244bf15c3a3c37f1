/-
  Memory while snap.Take reads any bytes: what a reading leaves, a clone more. No condition but where things lie.
-/
import Derived.Test.YteghbfkkpnlilaaZd
import Derived.BigQuiet

namespace Go.Proofs.Yteghbfkkpnlilaa
open Go.RowKit Go.BigFrame
set_option linter.unusedSimpArgs false
set_option linter.unusedVariables false
set_option maxRecDepth 100000
structure Tkr (w : World) (q : OA) (g : Nat) (pr : Option Addr) (F : List Nat) (s : RD) (wr : World) : Prop where
  blk : Blk wr g 36 #[.bool q.th, .slice q.D q.dt.length q.cd, .int .i64 q.sq, .slice q.C q.cl.length q.cc]
  res : Blk wr w.heap.size 36 #[.bool false, .slice none 0 0, .int .i64 0, .slice none 0 0]
  own : q.N wr (w.heap.size + 1)
  rd : Rd wr (w.heap.size + 1) F pr s
  bel : Below w.heap.size w wr
  far : w.heap.size + 1 ≤ g
  gF : g ∉ F
  dF : ∀ k ∈ rowOf (.slice q.D 0 0), k ∉ F
  cF : ∀ k ∈ rowOf (.slice q.C 0 0), k ∉ F
  kF : ∀ c ∈ q.cl, (∀ k ∈ c.sR, k ∉ F) ∧ ∀ k ∈ c.dR, k ∉ F
theorem Tkr.read {w wr w2 : World} {q : OA} {g : Nat} {pr : Option Addr} {F F2 : List Nat} {s s2 : RD} (h : Tkr w q g pr F s wr) (r : Rd w2 (w.heap.size + 1) F2 pr s2) (o : Only F wr w2) (f : Fresh wr F F2) : Tkr w q g pr F2 s2 w2 := by
  have keep : ∀ k, k < wr.heap.size → k ∉ F → w2.heap[k]? = wr.heap[k]? := fun k h1 h2 => o.block k h1 h2
  have gone : ∀ k, k < wr.heap.size → k ∉ F → k ∉ F2 := fun k h1 h2 hm => by
    rcases f k hm with h' | h'
    · exact h2 h'
    · omega
  have hov := h.rd.over
  have hrw : w.heap.size ∉ F := fun hm => by have := hov _ hm; omega
  exact ⟨h.blk.of (keep _ h.blk.lt h.gF), h.res.of (keep _ h.res.lt hrw), OA.P.of h.own (fun k hk => keep k (OA.P.dU h.own k hk).2.1 (h.dF k hk)) (fun k hk => keep k (OA.P.cU h.own k hk).2.1 (h.cF k hk)) (fun c hc => ⟨fun k hk => keep k ((h.own.cl c hc).sU k hk).2.1 ((h.kF c hc).1 k hk), fun k hk => keep k ((h.own.cl c hc).dU k hk).2.1 ((h.kF c hc).2 k hk)⟩), r,
    h.bel.trans (o.below (B := w.heap.size) (fun k hk => by have := hov k hk; omega) h.bel.size), h.far, gone _ h.blk.lt h.gF, fun k hk => gone k (OA.P.dU h.own k hk).2.1 (h.dF k hk), fun k hk => gone k (OA.P.cU h.own k hk).2.1 (h.cF k hk),
    fun c hc => ⟨fun k hk => gone k ((h.own.cl c hc).sU k hk).2.1 ((h.kF c hc).1 k hk), fun k hk => gone k ((h.own.cl c hc).dU k hk).2.1 ((h.kF c hc).2 k hk)⟩⟩
theorem Tkr.next {w wr w2 : World} {q : OA} {g : Nat} {pr : Option Addr} {F : List Nat} {s : RD} (h : Tkr w q g pr F s wr) (hb : Below wr.heap.size wr w2) : Tkr w q g pr F s w2 :=
  ⟨h.blk.of (hb.block _ h.blk.lt), h.res.of (hb.block _ h.res.lt), OA.N.below h.own hb, h.rd.below hb, h.bel.trans (hb.mono h.bel.size), h.far, h.gF, h.dF, h.cF, h.kF⟩
theorem Tkr.more {w W1 W3 W4 : World} {q : OA} {g c4 : Nat} {pr A4 : Option Addr} {F : List Nat} {s : RD} {c : CA} (h : Tkr w q g pr F s W1) (hc : CA.N c W1 (w.heap.size + 1)) (hcF : (∀ k ∈ c.sR, k ∉ F) ∧ ∀ k ∈ c.dR, k ∉ F) (hfs : ∀ a ∈ q.cl.map CA.sR, ∀ k ∈ a, k ∉ c.sR) (hfd : ∀ a ∈ rowOf (.slice q.D 0 0) :: q.cl.map CA.dR, ∀ k ∈ a, k ∉ c.dR)
    (h3 : OwnC 79 W3 (w.heap.size + 1) (.slice A4 (q.cl ++ [c]).length c4) (q.cl ++ [c])) (g3 : (W1.alloc (.cells c.cells.toArray 79)).grownBy W3 (Value.slice q.C q.cl.length q.cc).ownBlock)
    (hA : (Value.slice A4 (q.cl ++ [c]).length c4).ownBlock = (Value.slice q.C q.cl.length q.cc).ownBlock ∨ (Value.slice A4 (q.cl ++ [c]).length c4).ownBlock = some (W1.alloc (.cells c.cells.toArray 79)).heap.size)
    (ho : Only [g] W3 W4) (K4 : Blk W4 g 36 #[.bool q.th, .slice q.D q.dt.length q.cd, .int .i64 q.sq, .slice A4 (q.cl ++ [c]).length c4]) : Tkr w ⟨q.th, q.dt, q.D, q.cd, q.sq, A4, c4, q.cl ++ [c]⟩ g pr F s W4 := by
  have hrowC : (Value.slice q.C q.cl.length q.cc).ownBlock = (Value.slice q.C 0 0).ownBlock := by cases q.C <;> rfl
  rw [hrowC] at g3 hA
  have hcl : ∀ k, (Value.slice q.C 0 0).ownBlock = some k → w.heap.size + 1 ≤ k ∧ k ∉ F ∧ ∃ cs, Blk W1 k 79 cs := fun k hk => by
    obtain ⟨x1, x2, x3⟩ := OA.P.cU h.own k (mem_rowOf.2 hk)
    exact ⟨x1, h.cF k (mem_rowOf.2 hk), x3⟩
  have hsz := g3.size
  rw [World.size_alloc] at hsz
  have hstay : ∀ k, k < W1.heap.size → (∀ j, (Value.slice q.C 0 0).ownBlock = some j → k ≠ j) → k ≠ g → W4.heap[k]? = W1.heap[k]? := fun k hkl hj hne => by
    have e1 : W3.heap[k]? = W1.heap[k]? := (g3.block k (by rw [World.size_alloc]; omega) (fun e => hj k e.symm rfl)).trans (Below.heap_alloc W1 _ k hkl)
    exact (ho.block k (by omega) (fun hm => by simp at hm; exact hne hm)).trans e1
  have hkeep : ∀ k t cs, Blk W1 k t cs → t ≠ 79 → k ≠ g → W4.heap[k]? = W1.heap[k]? := fun k t cs hk ht hne =>
    hstay k hk.lt (fun j hj e => by
      subst e
      obtain ⟨-, -, cs', hb⟩ := hcl k hj
      exact hk.ne_ hb ht rfl) hne
  have hng : ∀ k t cs, Blk W1 k t cs → t ≠ 36 → k ≠ g := fun k t cs hk ht e => by subst e; exact hk.ne_ h.blk ht rfl
  have hCN : ∀ {c' : CA}, c'.N W1 (w.heap.size + 1) → c'.N W4 (w.heap.size + 1) := fun hc' => hc'.of (fun k hm => by obtain ⟨_, _, cs, hb⟩ := hc'.sU k hm; exact hkeep k _ cs hb (by decide) (hng k _ cs hb (by decide))) (fun k hm => by obtain ⟨_, _, cs, hb⟩ := hc'.dU k hm; exact hkeep k _ cs hb (by decide) (hng k _ cs hb (by decide)))
  have hfar := h.far
  have hFu := h.rd.under
  have hb1 : Below w.heap.size w (W1.alloc (.cells c.cells.toArray 79)) := h.bel.alloc h.bel.size _
  have hb3 : Below w.heap.size w W3 := hb1.grown g3 (by rw [World.size_alloc]; have := h.bel.size; omega) (fun k e => by have := (hcl k e).1; omega)
  refine ⟨K4, h.res.of (hkeep _ _ _ h.res (by decide) (by omega)), ⟨row_of h.own.dt fun k hk => by obtain ⟨cs, hb⟩ := own_ty h.own.dt hk; exact hkeep k _ cs hb (by decide) (hng k _ cs hb (by decide)), h.own.ok, ?_, fun c' hc' => ?_, h.own.q1, h.own.q2, ?_, ?_⟩, ?_, ?_, h.far, h.gF, h.dF, ?_, ?_⟩
  · rw [List.append_nil]
    exact row_of h3 fun k hk => ho.block k (row_under h3 k hk) (fun hm => by
      simp at hm
      subst hm
      obtain ⟨cs, hb⟩ := own_ty h3 hk
      have hgl := h.blk.lt
      refine hb.ne_ (h.blk.of ((g3.block _ (by rw [World.size_alloc]; omega) (fun e => ?_)).trans (Below.heap_alloc W1 _ _ (by omega)))) (by decide) rfl
      obtain ⟨-, -, cs', hb'⟩ := hcl _ e.symm
      exact hb'.ne_ h.blk (by decide) rfl)
  · rcases List.mem_append.1 hc' with hm | hm
    · exact hCN (h.own.cl c' hm)
    · simp at hm
      subst hm
      exact hCN hc
  · have := h.own.dD.snoc (x := c.dR) hfd
    simpa using this
  · have := h.own.dS.snoc (x := c.sR) hfs
    simpa using this
  · exact h.rd.of (Nat.le_trans (by omega) ho.size) (fun k hk => hstay k (hFu k hk) (fun j hj e => by subst e; exact (hcl k hj).2.1 hk) (fun e => by subst e; exact h.gF hk))
  · exact hb3.trans (ho.below (B := w.heap.size) (fun k hk => by simp at hk; omega) hb3.size)
  · intro k hk hF
    have hk' : (Value.slice A4 (q.cl ++ [c]).length c4).ownBlock = some k := by
      have := mem_rowOf.1 hk
      rw [← this]
      cases A4 <;> rfl
    rcases hA with e | e
    · rw [hk'] at e
      exact (hcl k e.symm).2.1 hF
    · rw [hk'] at e
      injection e with e
      have := hFu k hF
      simp at e
      omega
  · intro c' hc'
    rcases List.mem_append.1 hc' with hm | hm
    · exact h.kF c' hm
    · simp at hm
      subst hm
      exact hcF
end Go.Proofs.Yteghbfkkpnlilaa

/-
  What snap.Take and the document's Take read of any bytes, and that both say yes to the same. Nothing of the program is named.
-/
namespace Go.Proofs.Yteghbfkkpnlilaa
open Go.RowKit
set_option linter.unusedSimpArgs false
set_option linter.unusedVariables false
set_option maxRecDepth 100000
def RD.scl (s : RD) : ClV := ⟨s.nums, s.numsTo.bytes⟩
def RD.sclTo (s : RD) : RD := s.numsTo.bytesTo
def RD.scL : Nat → RD → List ClV
  | 0, _ => []
  | k + 1, s => s.scl :: RD.scL k s.sclTo
def RD.dcL : Nat → RD → List ClV
  | 0, _ => []
  | k + 1, s => if s.bad then [] else s.scl :: RD.dcL k s.sclTo
def RD.dcT : Nat → RD → RD
  | 0, s => s
  | k + 1, s => if s.bad then s else RD.dcT k s.sclTo
def RD.o1 (s : RD) : RD := s.flagTo
def RD.o2 (s : RD) : RD := s.o1.bytesTo
def RD.o3 (s : RD) : RD := s.o2.take 8
def RD.o4 (s : RD) : RD := s.o3.take 8
def RD.sov (s : RD) : OV := ⟨s.flag, s.o1.bytes, s.o2.num, RD.scL (min s.o3.num 16).toNat s.o4⟩
def RD.dov (s : RD) : OV := ⟨s.flag, s.o1.bytes, s.o2.num, RD.dcL s.o3.num.toNat s.o4⟩
def RD.dovT (s : RD) : RD := RD.dcT s.o3.num.toNat s.o4
def SOk (b : List Nat) : Prop := Good (⟨b, false⟩ : RD).sov ∧ putV (⟨b, false⟩ : RD).sov = b
def DOk9 (b : List Nat) : Prop := (⟨b, false⟩ : RD).dovT.bad = false ∧ Good (⟨b, false⟩ : RD).dov ∧ putV (⟨b, false⟩ : RD).dov = b
theorem putV_lt9 {o : OA} {w : World} (h : o.R w) : ∀ x ∈ putV o.v, x < 256 := by
  intro x hx
  unfold putV at hx
  simp only [List.mem_append, List.mem_flatMap, List.mem_singleton] at hx
  rcases hx with (((hx | hx) | hx) | hx) | ⟨c, hc, hx⟩
  · rw [hx]
    split <;> omega
  · exact bytesB_lt h.dt.2 x hx
  · exact numB_lt _ x hx
  · exact numB_lt _ x hx
  · obtain ⟨a, ha, rfl⟩ := List.mem_map.1 hc
    exact clT_lt (h.cl a ha).dt.2 x hx
/-! ### lengths -/
theorem take_notbad9 {s : RD} {n : Int} (h : (s.take n).bad = false) : s.fits n = true := by
  unfold RD.take at h
  split at h
  · assumption
  · cases h
theorem take_ln9 (s : RD) (n : Int) : (s.take n).bs.length ≤ s.bs.length := by
  unfold RD.take
  split
  · simp
  · simp [RD.spoilt]
theorem got_ln9 (s : RD) (n : Int) : (s.got n).length ≤ s.bs.length := by
  unfold RD.got
  split
  · simp; omega
  · simp
theorem flagTo_ln9 (s : RD) : s.flagTo.bs.length ≤ s.bs.length := by
  unfold RD.flagTo
  split
  · simp [RD.spoilt]
  · exact take_ln9 s 1
theorem bytesTo_ln9 (s : RD) : s.bytesTo.bs.length ≤ s.bs.length := Nat.le_trans (take_ln9 _ _) (take_ln9 _ _)
theorem bytes_ln9 (s : RD) : s.bytes.length ≤ s.bs.length := Nat.le_trans (got_ln9 _ _) (take_ln9 _ _)
theorem run_ln9 (s : RD) : ∀ k, (RD.run k s).bs.length ≤ s.bs.length
  | 0 => Nat.le_refl _
  | k + 1 => Nat.le_trans (take_ln9 _ 8) (run_ln9 s k)
theorem numsTo_ln9 (s : RD) : s.numsTo.bs.length ≤ s.bs.length := by
  unfold RD.numsTo
  split
  · exact Nat.le_trans (run_ln9 _ _) (take_ln9 s 8)
  · simp [RD.spoilt]
theorem nums_ln9 (s : RD) : s.nums.length ≤ s.bs.length := by
  unfold RD.nums
  split
  · rename_i h
    rw [RD.rows_len]
    unfold RD.many at h
    simp only [Bool.and_eq_true, decide_eq_true_eq] at h
    have := take_ln9 s 8
    omega
  · simp
theorem sclTo_ln9 (s : RD) : s.sclTo.bs.length ≤ s.bs.length := Nat.le_trans (bytesTo_ln9 _) (numsTo_ln9 _)
theorem o4_ln9 (s : RD) : s.o4.bs.length ≤ s.bs.length := Nat.le_trans (take_ln9 _ _) (Nat.le_trans (take_ln9 _ _) (Nat.le_trans (bytesTo_ln9 _) (flagTo_ln9 _)))
theorem got_lt9 {s : RD} (h : ∀ b ∈ s.bs, b < 256) (n : Int) : ∀ b ∈ s.got n, b < 256 := by
  unfold RD.got
  split
  · exact fun b hb => h b (List.mem_of_mem_take hb)
  · exact fun b hb => by cases hb
theorem take_lt9 {s : RD} (h : ∀ b ∈ s.bs, b < 256) (n : Int) : ∀ b ∈ (s.take n).bs, b < 256 := by
  unfold RD.take
  split
  · exact fun b hb => h b (List.mem_of_mem_drop hb)
  · exact fun b hb => by cases hb
theorem run_lt9 {s : RD} (h : ∀ b ∈ s.bs, b < 256) : ∀ k, ∀ b ∈ (RD.run k s).bs, b < 256
  | 0 => h
  | k + 1 => take_lt9 (run_lt9 h k) 8
theorem numsTo_lt9 {s : RD} (h : ∀ b ∈ s.bs, b < 256) : ∀ b ∈ s.numsTo.bs, b < 256 := by
  unfold RD.numsTo
  split
  · exact run_lt9 (take_lt9 h 8) _
  · exact fun b hb => by cases hb
theorem bytesTo_lt9 {s : RD} (h : ∀ b ∈ s.bs, b < 256) : ∀ b ∈ s.bytesTo.bs, b < 256 := take_lt9 (take_lt9 h 8) _
theorem flagTo_lt9 {s : RD} (h : ∀ b ∈ s.bs, b < 256) : ∀ b ∈ s.flagTo.bs, b < 256 := by
  unfold RD.flagTo
  split
  · exact fun b hb => by cases hb
  · exact take_lt9 h 1
theorem rows_in9 (s : RD) : ∀ (k : Nat), ∀ x ∈ RD.rows s k, -9223372036854775808 ≤ x ∧ x ≤ 9223372036854775807
  | 0, x, hx => by cases hx
  | k + 1, x, hx => by
    rw [RD.rows] at hx
    rcases List.mem_append.1 hx with h | h
    · exact rows_in9 s k x h
    · obtain rfl := List.mem_singleton.1 h
      exact num_range _
theorem nums_in9 (s : RD) : ∀ x ∈ s.nums, -9223372036854775808 ≤ x ∧ x ≤ 9223372036854775807 := by
  unfold RD.nums
  split
  · exact rows_in9 _ _
  · exact fun x hx => by cases hx
structure ClS (c : ClV) (n : Nat) : Prop where
  sn : c.sn.length ≤ n
  rg : ∀ s ∈ c.sn, -9223372036854775808 ≤ s ∧ s ≤ 9223372036854775807
  dt : c.dt.length ≤ n
  lt : ∀ b ∈ c.dt, b < 256
theorem scl_S {s : RD} {n : Nat} (h : s.bs.length ≤ n) (hl : ∀ b ∈ s.bs, b < 256) : ClS s.scl n :=
  ⟨Nat.le_trans (nums_ln9 s) h, nums_in9 s, Nat.le_trans (bytes_ln9 _) (Nat.le_trans (numsTo_ln9 s) h), got_lt9 (take_lt9 (numsTo_lt9 hl) 8) _⟩
theorem scL_S {n : Nat} : ∀ (k : Nat) {s : RD}, s.bs.length ≤ n → (∀ b ∈ s.bs, b < 256) → ∀ c ∈ RD.scL k s, ClS c n
  | 0, s, _, _, c, hc => by cases hc
  | k + 1, s, h, hl, c, hc => by
    rw [RD.scL] at hc
    rcases List.mem_cons.1 hc with rfl | hc
    · exact scl_S h hl
    · exact scL_S k (Nat.le_trans (sclTo_ln9 s) h) (bytesTo_lt9 (numsTo_lt9 hl)) c hc
theorem dcL_S {n : Nat} : ∀ (k : Nat) {s : RD}, s.bs.length ≤ n → (∀ b ∈ s.bs, b < 256) → ∀ c ∈ RD.dcL k s, ClS c n
  | 0, s, _, _, c, hc => by cases hc
  | k + 1, s, h, hl, c, hc => by
    rw [RD.dcL] at hc
    split at hc
    · cases hc
    · rcases List.mem_cons.1 hc with rfl | hc
      · exact scl_S h hl
      · exact dcL_S k (Nat.le_trans (sclTo_ln9 s) h) (bytesTo_lt9 (numsTo_lt9 hl)) c hc
theorem scL_len : ∀ (k : Nat) (s : RD), (RD.scL k s).length = k
  | 0, _ => rfl
  | k + 1, s => by rw [RD.scL, List.length_cons, scL_len k]
theorem o4_lt9 {s : RD} (h : ∀ b ∈ s.bs, b < 256) : ∀ b ∈ s.o4.bs, b < 256 := take_lt9 (take_lt9 (bytesTo_lt9 (flagTo_lt9 h)) 8) 8
theorem sov_wide {b : List Nat} (hb : ∀ x ∈ b, x < 256) (hn : b.length ≤ 10000) : Wide9 (⟨b, false⟩ : RD).sov :=
  ⟨num_range _, fun c hc => by
    have := scL_S (n := b.length) _ (o4_ln9 ⟨b, false⟩) (o4_lt9 (s := ⟨b, false⟩) hb) c hc
    exact ⟨Nat.le_trans this.sn hn, this.rg, this.lt⟩⟩
theorem dov_wide {b : List Nat} (hb : ∀ x ∈ b, x < 256) (hn : b.length ≤ 10000) : Wide9 (⟨b, false⟩ : RD).dov :=
  ⟨num_range _, fun c hc => by
    have := dcL_S (n := b.length) _ (o4_ln9 ⟨b, false⟩) (o4_lt9 (s := ⟨b, false⟩) hb) c hc
    exact ⟨Nat.le_trans this.sn hn, this.rg, this.lt⟩⟩
theorem sov_sm {b : List Nat} (hb : ∀ x ∈ b, x < 256) (hn : b.length ≤ 10000) {q : OA} (hq : q.v = (⟨b, false⟩ : RD).sov) : q.Sm := by
  have e1 : q.dt = (⟨b, false⟩ : RD).o1.bytes := congrArg OV.dt hq
  have e2 : q.cl.map CA.v = RD.scL (min (⟨b, false⟩ : RD).o3.num 16).toNat (⟨b, false⟩ : RD).o4 := congrArg OV.cl hq
  refine ⟨?_, ?_, fun c hc => ?_⟩
  · rw [e1]
    exact Nat.le_trans (bytes_ln9 _) (Nat.le_trans (flagTo_ln9 _) hn)
  · have h := congrArg List.length e2
    rw [List.length_map, scL_len] at h
    omega
  · have hm : c.v ∈ RD.scL (min (⟨b, false⟩ : RD).o3.num 16).toNat (⟨b, false⟩ : RD).o4 := by rw [← e2]; exact List.mem_map.2 ⟨c, hc, rfl⟩
    have := scL_S (n := b.length) _ (o4_ln9 ⟨b, false⟩) (o4_lt9 (s := ⟨b, false⟩) hb) _ hm
    exact ⟨Nat.le_trans this.sn hn, Nat.le_trans this.dt hn⟩
theorem dcl_step (s : RD) (h : s.bad = false) : s.sclTo.bs.length + 8 ≤ s.bs.length ∨ s.sclTo = RD.spoilt := by
  have h1 : s.numsTo.bs.length + 8 ≤ s.bs.length ∨ s.numsTo = RD.spoilt := by
    unfold RD.numsTo
    split
    · rename_i hm
      left
      unfold RD.many at hm
      simp only [Bool.and_eq_true, Bool.not_eq_true'] at hm
      have h2 := take_notbad9 hm.2
      unfold RD.fits at h2
      simp only [Bool.and_eq_true, decide_eq_true_eq] at h2
      have h3 := run_ln9 (s.take 8) s.num.toNat
      have h4 : (s.take 8).bs.length = s.bs.length - 8 := by
        have h5 : s.take 8 = ⟨s.bs.drop 8, false⟩ := (RD.take_fit (s := s) (k := 8) h (by omega)).1
        rw [h5]
        simp
      omega
    · exact .inr rfl
  rcases h1 with h1 | h1
  · left
    have := bytesTo_ln9 s.numsTo
    unfold RD.sclTo
    omega
  · right
    unfold RD.sclTo
    rw [h1]
    unfold RD.bytesTo
    rw [(RD.take_un (s := RD.spoilt) (.inr (.inr rfl))).1, (RD.take_un (s := RD.spoilt) (.inr (.inr rfl))).1]
theorem dcL_spoilt : ∀ k, RD.dcL k RD.spoilt = []
  | 0 => rfl
  | k + 1 => by rw [RD.dcL]; exact if_pos rfl
theorem dcL_len : ∀ (k : Nat) (s : RD), 8 * (RD.dcL k s).length ≤ s.bs.length + 8
  | 0, s => by simp [RD.dcL]
  | k + 1, s => by
    rw [RD.dcL]
    split
    · simp
    · rename_i hb
      have hb : s.bad = false := by simpa using hb
      rw [List.length_cons]
      rcases dcl_step s hb with h | h
      · have := dcL_len k s.sclTo
        omega
      · rw [h, dcL_spoilt]
        simp
theorem dov_sm {b : List Nat} (hb : ∀ x ∈ b, x < 256) (hn : b.length ≤ 7000) {q : OA} (hq : q.v = (⟨b, false⟩ : RD).dov) : q.Sm := by
  have e1 : q.dt = (⟨b, false⟩ : RD).o1.bytes := congrArg OV.dt hq
  have e2 : q.cl.map CA.v = RD.dcL (⟨b, false⟩ : RD).o3.num.toNat (⟨b, false⟩ : RD).o4 := congrArg OV.cl hq
  have h4 := o4_ln9 ⟨b, false⟩
  refine ⟨?_, ?_, fun c hc => ?_⟩
  · rw [e1]
    exact Nat.le_trans (bytes_ln9 _) (Nat.le_trans (flagTo_ln9 _) (by simp only; omega))
  · have h := congrArg List.length e2
    rw [List.length_map] at h
    have := dcL_len (⟨b, false⟩ : RD).o3.num.toNat (⟨b, false⟩ : RD).o4
    simp only at h4
    omega
  · have hm : c.v ∈ RD.dcL (⟨b, false⟩ : RD).o3.num.toNat (⟨b, false⟩ : RD).o4 := by rw [← e2]; exact List.mem_map.2 ⟨c, hc, rfl⟩
    have := dcL_S (n := b.length) _ h4 (o4_lt9 (s := ⟨b, false⟩) hb) _ hm
    exact ⟨Nat.le_trans this.sn (by omega), Nat.le_trans this.dt (by omega)⟩
/-! ### what is put is read back -/
theorem scl_back (c : ClV) (rest : List Nat) (h : c.sn.length ≤ 10000 ∧ (∀ s ∈ c.sn, -9223372036854775808 ≤ s ∧ s ≤ 9223372036854775807) ∧ ∀ b ∈ c.dt, b < 256) (hd : c.dt.length ≤ 256) : (⟨clT c ++ rest, false⟩ : RD).scl = c ∧ (⟨clT c ++ rest, false⟩ : RD).sclTo = ⟨rest, false⟩ := by
  rw [clT_eq]
  obtain ⟨h1, h2⟩ := nums_back c.sn ((numB c.dt.length ++ c.dt) ++ rest) (by omega) h.2.1
  obtain ⟨h3, h4⟩ := bytes_back c.dt rest (by omega)
  refine ⟨?_, ?_⟩
  · unfold RD.scl
    rw [h2, h1, h4]
  · unfold RD.sclTo
    rw [h1, h3]
theorem scL_back : ∀ (l : List ClV), (∀ c ∈ l, (c.sn.length ≤ 10000 ∧ (∀ s ∈ c.sn, -9223372036854775808 ≤ s ∧ s ≤ 9223372036854775807) ∧ ∀ b ∈ c.dt, b < 256) ∧ c.dt.length ≤ 256) → RD.scL l.length ⟨l.flatMap clT, false⟩ = l ∧ RD.dcL l.length ⟨l.flatMap clT, false⟩ = l ∧ RD.dcT l.length ⟨l.flatMap clT, false⟩ = ⟨[], false⟩
  | [], _ => ⟨rfl, rfl, rfl⟩
  | c :: l, h => by
    obtain ⟨a, b⟩ := scl_back c (l.flatMap clT) (h c (by simp)).1 (h c (by simp)).2
    obtain ⟨i1, i2, i3⟩ := scL_back l fun x hx => h x (List.mem_cons_of_mem _ hx)
    rw [List.flatMap_cons, List.length_cons, RD.scL, RD.dcL, RD.dcT, a, b, i1, i2, i3]
    exact ⟨rfl, rfl, rfl⟩
theorem ov_back (o : OV) (hg : Good o) (hw : Wide9 o) : (⟨putV o, false⟩ : RD).sov = o ∧ (⟨putV o, false⟩ : RD).dov = o ∧ (⟨putV o, false⟩ : RD).dovT.bad = false := by
  have hd := hg.dt
  have hc := hg.cn
  obtain ⟨f1, f2⟩ := flag_back o.th ((numB o.dt.length ++ o.dt) ++ (numB o.sq ++ (numB o.cl.length ++ o.cl.flatMap clT)))
  rw [← putV_eq] at f1 f2
  obtain ⟨b1, b2⟩ := bytes_back o.dt (numB o.sq ++ (numB o.cl.length ++ o.cl.flatMap clT)) (by omega)
  obtain ⟨q1, q2⟩ := take_num o.sq (numB o.cl.length ++ o.cl.flatMap clT) hw.sq.1 hw.sq.2
  obtain ⟨n1, n2⟩ := take_num o.cl.length (o.cl.flatMap clT) (by omega) (by omega)
  obtain ⟨l1, l2, l3⟩ := scL_back o.cl fun c hc => ⟨hw.cl c hc, (hg.cl c hc).dt⟩
  have e1 : (⟨putV o, false⟩ : RD).o1 = ⟨(numB o.dt.length ++ o.dt) ++ (numB o.sq ++ (numB o.cl.length ++ o.cl.flatMap clT)), false⟩ := f1
  have e2 : (⟨putV o, false⟩ : RD).o2 = ⟨numB o.sq ++ (numB o.cl.length ++ o.cl.flatMap clT), false⟩ := by unfold RD.o2; rw [e1, b1]
  have e3 : (⟨putV o, false⟩ : RD).o3 = ⟨numB o.cl.length ++ o.cl.flatMap clT, false⟩ := by unfold RD.o3; rw [e2, q1]
  have e4 : (⟨putV o, false⟩ : RD).o4 = ⟨o.cl.flatMap clT, false⟩ := by unfold RD.o4; rw [e3, n1]
  have hm : (min (o.cl.length : Int) 16).toNat = o.cl.length := by omega
  have ht : (o.cl.length : Int).toNat = o.cl.length := by omega
  refine ⟨?_, ?_, ?_⟩
  · unfold RD.sov
    rw [f2, e4, e3, e2, e1, b2, q2, n2, hm, l1]
  · unfold RD.dov
    rw [f2, e4, e3, e2, e1, b2, q2, n2, ht, l2]
  · unfold RD.dovT
    rw [e4, e3, n2, ht, l3]
theorem sok_iff {b : List Nat} (hb : ∀ x ∈ b, x < 256) (hn : b.length ≤ 7000) : (SOk b ↔ DOk9 b) ∧ (SOk b → (⟨b, false⟩ : RD).sov = (⟨b, false⟩ : RD).dov) := by
  have h1 : SOk b → DOk9 b ∧ (⟨b, false⟩ : RD).sov = (⟨b, false⟩ : RD).dov := fun h => by
    obtain ⟨x1, x2, x3⟩ := ov_back _ h.1 (sov_wide hb (by omega))
    rw [h.2] at x1 x2 x3
    exact ⟨⟨x3, by rw [x2]; exact h.1, by rw [x2]; exact h.2⟩, x2.symm⟩
  refine ⟨⟨fun h => (h1 h).1, fun h => ?_⟩, fun h => (h1 h).2⟩
  obtain ⟨x1, x2, x3⟩ := ov_back _ h.2.1 (dov_wide hb (by omega))
  rw [h.2.2] at x1
  exact ⟨by rw [x1]; exact h.2.1, by rw [x1]; exact h.2.2⟩
end Go.Proofs.Yteghbfkkpnlilaa

/-
  The document's reader. Conditions: it lies where it is said to; its bytes lie below what the call may write.
-/
namespace Go.Proofs.Yteghbfkkpnlilaa
open Go.RowKit
set_option linter.unusedSimpArgs false
set_option maxRecDepth 100000
set_option linter.unusedVariables false
def Mr (w : World) (base g : Nat) (s : RD) : Prop :=
  ∃ A c, Blk w g 101 #[.slice A s.bs.length c, .bool s.bad] ∧ Bytes w base A s.bs.length s.bs ∧ s.bs.length ≤ c ∧ c ≤ maxLen ∧ base ≤ g ∧ s.Good
section
variable {w w' : World} {base g : Nat} {s : RD}
theorem Mr.of (h : Mr w base g s) (hb : Below base w w') (hk : w'.heap[g]? = w.heap[g]?) : Mr w' base g s := by
  obtain ⟨A, c, h1, h2, r⟩ := h
  exact ⟨A, c, h1.of hk, h2.below hb, r⟩
theorem Mr.lt (h : Mr w base g s) : g < w.heap.size := by
  obtain ⟨A, c, h1, _⟩ := h
  exact h1.lt
theorem Mr.over (h : Mr w base g s) : base ≤ g := by
  obtain ⟨A, c, _, _, _, _, h, _⟩ := h
  exact h
theorem Mr.good (h : Mr w base g s) : s.Good := by
  obtain ⟨A, c, _, _, _, _, _, h⟩ := h
  exact h
theorem Mr.below (h : Mr w base g s) (hb : Below w.heap.size w w') : Mr w' base g s :=
  h.of (hb.mono (Nat.le_of_lt (Nat.lt_of_le_of_lt h.over h.lt))) (hb.block g h.lt)
end
theorem mspoil_cells {w : World} {base g : Nat} {s : RD} (h : Mr w base g s) : Mr ((w.setCell ⟨g, 1, none⟩ (.bool true)).setCell ⟨g, 0, none⟩ (.slice none 0 0)) base g RD.spoilt ∧ Only [g] w ((w.setCell ⟨g, 1, none⟩ (.bool true)).setCell ⟨g, 0, none⟩ (.slice none 0 0)) := by
  obtain ⟨A, c, h1, h2, h3, h4, h5, h6⟩ := h
  refine ⟨⟨none, 0, ?_, ⟨Reads.none_, fun b hb => by cases hb⟩, Nat.le_refl _, by simp [maxLen], h5, RD.spoilt_good⟩, ((Only.refl _ _).setCell (.inl (by simp)) _).setCell (.inl (by simp)) _⟩
  exact (h1.set_ 1 (.bool true)).set_ 0 (.slice none 0 0)
theorem mcut_cells {w' : World} {base g k : Nat} {s : RD} {A : Option Addr} {c : Nat} (h1 : Blk w' g 101 #[.slice A s.bs.length c, .bool s.bad]) (h2 : Bytes w' base A s.bs.length s.bs) (h3 : s.bs.length ≤ c) (h4 : c ≤ maxLen) (h5 : base ≤ g) (h6 : s.Good) (hk : k ≤ s.bs.length) (hbad : s.bad = false) :
    Mr (w'.setCell ⟨g, 0, none⟩ (.slice (if c = k then A else A.map (·.add k)) (s.bs.length - k) (c - k))) base g ⟨s.bs.drop k, false⟩ := by
  have hcut : Bytes w' base (if c = k then A else A.map (·.add k)) (s.bs.length - k) (s.bs.drop k) := by
    have := h2.1.cut hk h3
    rw [Nat.mul_one, u8s, ← List.map_drop] at this
    exact ⟨this, fun b hb => h2.2 b (List.mem_of_mem_drop hb)⟩
  refine ⟨(if c = k then A else A.map (·.add k)), c - k, ?_, ?_, ?_, by omega, h5, ⟨fun e => (by cases e), fun b hb => h6.2 b (List.mem_of_mem_drop hb)⟩⟩
  · have := h1.set_ 0 (.slice (if c = k then A else A.map (·.add k)) (s.bs.length - k) (c - k))
    rw [hbad] at this
    simpa using this
  · simp only [List.length_drop]
    exact hcut.setCell h5 _
  · simp only [List.length_drop]; omega
theorem mtake_any (w : World) (base g : Nat) (s : RD) (n : Int) (h : Mr w base g s) (hn1 : -9223372036854775808 ≤ n) (hn2 : n ≤ 9223372036854775807) (hs : s.bs.length ≤ 9000000) :
    Calls Try.prog 93 #[.pointer (some ⟨g, 0, none⟩), .int .i64 n] w fun e w' => ∃ v, e = .returned v ∧ Own w' w.heap.size v (s.got n).length (s.got n) ∧ Mr w' base g (s.take n) ∧ Only [g] w w' := by
  have hH := h
  obtain ⟨A, c, h1, h2, h3, h4, h5, h6⟩ := h
  have hc0 : w.cell? ⟨g, 0, none⟩ = some (.slice A s.bs.length c) := by rw [h1.cell]; rfl
  have hc1 : w.cell? ⟨g, 1, none⟩ = some (.bool s.bad) := by rw [h1.cell]; rfl
  have hf0 : w.frozen? ⟨g, 0, none⟩ = false := h1.frozen _
  have hf1 : w.frozen? ⟨g, 1, none⟩ = false := h1.frozen _
  by_cases hbad : s.bad = true
  · obtain ⟨e1, e2⟩ := RD.take_un (s := s) (n := n) (.inr (.inr hbad))
    rw [e1, e2]
    rw [hbad] at hc1
    have hsp := Lib.hid (mspoil_cells hH)
    clear hH
    go_enter Try.func93, Try.ntmps93
    go_wp2
    go_ret
    exact ⟨_, rfl, Own.nil _ _, hsp.out⟩
  · have hbad' : s.bad = false := by simpa using hbad
    rw [hbad'] at hc1
    have hsp := Lib.hid (mspoil_cells hH)
    clear hH
    by_cases h0 : n < 0
    · obtain ⟨e1, e2⟩ := RD.take_un (s := s) (.inl h0)
      rw [e1, e2]
      have hd : decide (n < 0) = true := by simpa using h0
      go_enter Try.func93, Try.ntmps93
      go_wp2
      go_ret
      exact ⟨_, rfl, Own.nil _ _, hsp.out⟩
    · have hd : decide (n < 0) = false := by simpa using h0
      by_cases hl : (s.bs.length : Int) < n
      · obtain ⟨e1, e2⟩ := RD.take_un (s := s) (n := n) (.inr (.inl hl))
        rw [e1, e2]
        have hd2 : decide ((s.bs.length : Int) < n) = true := by simpa using hl
        go_enter Try.func93, Try.ntmps93
        go_wp2
        go_ret
        exact ⟨_, rfl, Own.nil _ _, hsp.out⟩
      · have hd2 : decide ((s.bs.length : Int) < n) = false := by simpa using hl
        obtain ⟨k, rfl⟩ := Int.eq_ofNat_of_zero_le (show 0 ≤ n by omega)
        have hkl : k ≤ s.bs.length := by omega
        obtain ⟨e1, e2⟩ := RD.take_fit hbad' hkl
        rw [e1, e2]
        have hlen : (s.bs.take k).length = k := by rw [List.length_take]; omega
        unfold maxLen at h4
        have q1 : (0 : Int) ≤ (k : Int) := by omega
        have q2 : (k : Int) ≤ (c : Int) := by omega
        have q3 : (k : Int) ≤ (s.bs.length : Int) := by omega
        have hkc : k ≤ c := by omega
        have bA := below_alloc w (.cells #[] 5)
        have hsrc : Bytes (w.alloc (.cells #[] 5)) base A k (s.bs.take k) := (h2.take hkl).since bA
        have H1 := Lib.hid h1
        have H2 := Lib.hid h2
        have H6 := Lib.hid h6
        have HSP := Lib.hid hsrc
        have hgl := h1.lt
        clear hsp hsrc h1 h2 h6
        by_cases hck : c = k
        · go_enter Try.func93, Try.ntmps93
          go_wp2_with (refine app_bytes (.tmp 29) (.tmp 35) rfl rfl w.heap.size (.slice (some ⟨w.heap.size, 0, none⟩) 0 0) 0 [] rfl (Own.new w w.heap.size (Nat.le_refl _)) base A k _ (s.bs.take k) rfl HSP.out (by omega) (by simp) ?_
                       intro v3 w3 h3' g3 a3
                       have b3 : Below w.heap.size w w3 := below_own (below_alloc w _) (Own.new w w.heap.size (Nat.le_refl _)) (Nat.le_refl _) g3 (by simp)
                       have c30 : w3.cell? ⟨g, 0, none⟩ = some (.slice A s.bs.length c) := by rw [(H1.out.below b3 hgl).cell]; rfl
                       have f30 : w3.frozen? ⟨g, 0, none⟩ = false := (H1.out.below b3 hgl).frozen _)
          go_ret
          have hM := mcut_cells (k := k) (H1.out.below b3 hgl) (H2.out.since b3) h3 h4 h5 H6.out hkl hbad'
          have hO : Own w3 w.heap.size v3 k (s.bs.take k) := by simpa using h3'
          have hne : ∀ k ∈ rowOf v3, k ≠ g := fun j hj e => by
            have := (World.ownsRow.lt hO j (mem_rowOf.1 hj)).1
            omega
          rw [if_pos hck, show c - k = 0 by omega] at hM
          subst hck
          exact ⟨v3, rfl, row_of hO (fun j hj => Below.heap_setCell _ _ _ _ (hne j hj)), hM, (Only.of_below b3 [g]).setCell (.inl (by simp)) _⟩
        · go_enter Try.func93, Try.ntmps93
          go_wp2_with (refine app_bytes (.tmp 29) (.tmp 35) rfl rfl w.heap.size (.slice (some ⟨w.heap.size, 0, none⟩) 0 0) 0 [] rfl (Own.new w w.heap.size (Nat.le_refl _)) base A k _ (s.bs.take k) rfl HSP.out (by omega) (by simp) ?_
                       intro v3 w3 h3' g3 a3
                       have b3 : Below w.heap.size w w3 := below_own (below_alloc w _) (Own.new w w.heap.size (Nat.le_refl _)) (Nat.le_refl _) g3 (by simp)
                       have c30 : w3.cell? ⟨g, 0, none⟩ = some (.slice A s.bs.length c) := by rw [(H1.out.below b3 hgl).cell]; rfl
                       have f30 : w3.frozen? ⟨g, 0, none⟩ = false := (H1.out.below b3 hgl).frozen _)
          go_ret
          have hM := mcut_cells (k := k) (H1.out.below b3 hgl) (H2.out.since b3) h3 h4 h5 H6.out hkl hbad'
          have hO : Own w3 w.heap.size v3 k (s.bs.take k) := by simpa using h3'
          have hne : ∀ k ∈ rowOf v3, k ≠ g := fun j hj e => by
            have := (World.ownsRow.lt hO j (mem_rowOf.1 hj)).1
            omega
          rw [if_neg hck] at hM
          exact ⟨v3, rfl, row_of hO (fun j hj => Below.heap_setCell _ _ _ _ (hne j hj)), hM, (Only.of_below b3 [g]).setCell (.inl (by simp)) _⟩
end Go.Proofs.Yteghbfkkpnlilaa

/-
  What the document's reader reads. Conditions: it lies where it is said to.
-/
namespace Go.Proofs.Yteghbfkkpnlilaa
open Go.RowKit
set_option linter.unusedSimpArgs false
set_option maxRecDepth 100000
set_option linter.unusedVariables false
theorem un_drop (l : List Nat) (k b : Nat) (h : l[k]? = some b) : un (l.drop k) = b + 256 * un (l.drop (k + 1)) := by
  have hk : k < l.length := (List.getElem?_eq_some_iff.1 h).1
  rw [List.drop_eq_getElem_cons hk, un]
  have : l[k] = b := (List.getElem?_eq_some_iff.1 h).2
  rw [this]
theorem un_drop_lt (l : List Nat) (k : Nat) (hl : l.length ≤ 8) (hb : ∀ b ∈ l, b < 256) : un (l.drop (k + 1)) < 72057594037927936 := by
  have h := un_lt (l.drop (k + 1)) (fun b hm => hb b (List.mem_of_mem_drop hm))
  have h2 : (l.drop (k + 1)).length ≤ 7 := by rw [List.length_drop]; omega
  have h3 : (256 : Nat) ^ (l.drop (k + 1)).length ≤ 256 ^ 7 := Nat.pow_le_pow_right (by omega) h2
  have h4 : (256 : Nat) ^ 7 = 72057594037927936 := by decide
  omega
theorem mnum_any (w : World) (base g : Nat) (s : RD) (h : Mr w base g s) (hs : s.bs.length ≤ 9000000) :
    Calls Try.prog 61 #[.pointer (some ⟨g, 0, none⟩)] w fun e w' => e = .returned (.int .i64 s.num) ∧ Mr w' base g (s.take 8) ∧ Only [g] w w' := by
  have hg := RD.got_lt h.good 8
  have hgl := got_len s 8
  have hnum : s.num = numOf (s.got 8) := rfl
  rw [hnum]
  go_enter Try.func61, Try.ntmps61
  go_wp2_with fail
  refine (mtake_any w base g s 8 h (by omega) (by omega) hs).mono ?_
  rintro e w1 ⟨v, rfl, h1, m1, o1⟩
  obtain ⟨A1, c1, rfl, -, -, -⟩ := h1.form
  have hby := h1.bytes hg
  have h8 : (s.got 8).length ≤ 8 := by
    rcases hgl with h | h
    · have h' : (s.got 8).length = 8 := h
      omega
    · have h' : (s.got 8).length = 0 := h
      omega
  have HM := Lib.hid (And.intro m1 o1)
  clear h1 m1 o1 hgl hnum
  generalize hq : s.got 8 = l at *
  have HQ := Lib.hid hq
  clear hq
  have HB := Lib.hid hby
  have HG := Lib.hid hg
  clear hby hg
  go_wp2
  go_loop [4, 5] (fun u i => ∃ k : Nat, k ≤ l.length ∧ i = .int .i64 ((k : Int) - 1) ∧ u = .int .u64 (un (l.drop k) : Nat)) (fun _ i => ((intOf i) + 1).toNat)
  case atStart => exact ⟨l.length, Nat.le_refl _, rfl, by simp [un]⟩
  case round =>
    obtain ⟨k, hk, rfl, rfl⟩ := hrel
    by_cases h0 : k = 0
    · subst h0
      have hd : decide ((0 : Int) ≤ (((0 : Nat) : Int) - 1)) = false := by decide
      go_wp2
      go_ret
      exact ⟨by rw [HQ.out]; rfl, HM.out⟩
    · obtain ⟨j, rfl⟩ : ∃ j, k = j + 1 := ⟨k - 1, by omega⟩
      obtain ⟨ad, b, rfl, hbj, hb256, hc⟩ := HB.out.at_ (show j < l.length by omega)
      have hlt := un_drop_lt l j h8 HG.out
      have hun := Lib.hid (un_drop l j b hbj)
      generalize un (l.drop (j + 1)) = u at *
      have e1 : (((j + 1 : Nat) : Int) - 1) = (j : Int) := by omega
      rw [e1]
      have hj0 : (0 : Int) ≤ (j : Int) := by omega
      have hj1 : (j : Int) < (l.length : Int) := by omega
      clear hbj
      go_wp2
      refine ⟨⟨j, by omega, rfl, ?_⟩, by simp only [intOf]; omega⟩
      rw [hun.out]
      congr 1
      omega
theorem mbyte_any (w : World) (base g : Nat) (s : RD) (h : Mr w base g s) (hs : s.bs.length ≤ 9000000) :
    Calls Try.prog 92 #[.pointer (some ⟨g, 0, none⟩)] w fun e w' => e = .returned (.int .u8 s.byte) ∧ Mr w' base g (s.take 1) ∧ Only [g] w w' := by
  have hg := RD.got_lt h.good 1
  have hbyte : s.byte = (s.got 1).headD 0 := rfl
  rw [hbyte]
  go_enter Try.func92, Try.ntmps92
  go_wp2_with fail
  refine (mtake_any w base g s 1 h (by omega) (by omega) hs).mono ?_
  rintro e w1 ⟨v, rfl, h1, m1, o1⟩
  obtain ⟨A1, c1, rfl, -, -, -⟩ := h1.form
  have hby := h1.bytes hg
  have HM := Lib.hid (And.intro m1 o1)
  clear h1 m1 o1 hbyte
  cases hq : s.got 1 with
  | nil =>
    rw [hq] at hby
    have HQ := Lib.hid hq
    clear hq
    go_wp2
    go_ret
    exact ⟨by rw [HQ.out]; rfl, HM.out⟩
  | cons b l =>
    rw [hq] at hby
    obtain ⟨ad, b', rfl, hb', hb256, hc⟩ := hby.at_ (show 0 < (b :: l).length by simp)
    simp at hb'
    subst hb'
    have HQ := Lib.hid hq
    have hc0 : w1.cell? ad = some (.int .u8 b) := by
      have e : ad.add 0 = ad := by simp [Addr.add]
      rwa [e] at hc
    have hd : (((b :: l).length : Int) == 0) = false := by simp; omega
    clear hq
    go_wp2
    go_ret
    exact ⟨by rw [HQ.out]; rfl, HM.out⟩
theorem mflag_any (w : World) (base g : Nat) (s : RD) (h : Mr w base g s) (hs : s.bs.length ≤ 9000000) :
    Calls Try.prog 59 #[.pointer (some ⟨g, 0, none⟩)] w fun e w' => e = .returned (.bool s.flag) ∧ Mr w' base g s.flagTo ∧ Only [g] w w' := by
  have hby := RD.byte_lt h.good
  have hfl : ((s.byte : Int) == 1) = s.flag := by unfold RD.flag; rw [Bool.eq_iff_iff, beq_iff_eq, beq_iff_eq]; omega
  by_cases h1 : 1 < s.byte
  · have hd : decide (1 < (s.byte : Int)) = true := by simp; omega
    have hto : s.flagTo = RD.spoilt := by unfold RD.flagTo; rw [if_pos h1]
    rw [hto]
    go_enter Try.func59, Try.ntmps59
    go_wp2_with fail
    refine (mbyte_any w base g s h hs).mono ?_
    rintro e w1 ⟨rfl, m1, o1⟩
    have hsp := Lib.hid (mspoil_cells m1)
    have HO := Lib.hid o1
    obtain ⟨A, c, k1, k2, k3, k4, k5, k6⟩ := m1
    have hc0 : w1.cell? ⟨g, 0, none⟩ = some (.slice A (s.take 1).bs.length c) := by rw [k1.cell]; rfl
    have hc1 : w1.cell? ⟨g, 1, none⟩ = some (.bool (s.take 1).bad) := by rw [k1.cell]; rfl
    have hf0 : w1.frozen? ⟨g, 0, none⟩ = false := k1.frozen _
    have hf1 : w1.frozen? ⟨g, 1, none⟩ = false := k1.frozen _
    clear k1 k2 k3 k4 k6 o1
    go_wp2
    go_ret
    exact ⟨rfl, hsp.out.1, HO.out.trans hsp.out.2 (Fresh.refl _ _)⟩
  · have hd : decide (1 < (s.byte : Int)) = false := by simp; omega
    have hto : s.flagTo = s.take 1 := by unfold RD.flagTo; rw [if_neg h1]
    rw [hto]
    go_enter Try.func59, Try.ntmps59
    go_wp2_with fail
    refine (mbyte_any w base g s h hs).mono ?_
    rintro e w1 ⟨rfl, m1, o1⟩
    go_wp2
    go_ret
    exact ⟨rfl, m1, o1⟩
theorem RD.bad_num {s : RD} (h : (s.take 8).bad = true) : s.num = 0 ∧ s.take 8 = RD.spoilt := by
  have hf : s.fits 8 = false := by
    cases hf : s.fits 8 with
    | false => rfl
    | true => simp [RD.take, hf] at h
  exact ⟨by simp [RD.num, RD.got, hf, numOf, un, wrap64], by simp [RD.take, hf]⟩
theorem mbytes_any (w : World) (base g : Nat) (s : RD) (h : Mr w base g s) (hs : s.bs.length ≤ 9000000) :
    Calls Try.prog 60 #[.pointer (some ⟨g, 0, none⟩)] w fun e w' => ∃ v, e = .returned v ∧ Own w' w.heap.size v s.bytes.length s.bytes ∧ Mr w' base g s.bytesTo ∧ Only [g] w w' := by
  have hle := RD.take_le s 8
  cases hb : (s.take 8).bad with
  | true =>
    obtain ⟨e1, e2⟩ := RD.bad_num hb
    have e3 : s.bytes = [] := by simp [RD.bytes, e2, RD.got, RD.fits, RD.spoilt]
    have e4 : s.bytesTo = s.take 8 := by unfold RD.bytesTo; rw [e2]; simp [RD.take, RD.fits, RD.spoilt]
    rw [e3, e4]
    go_enter Try.func60, Try.ntmps60
    go_wp2_with fail
    refine (mnum_any w base g s h hs).mono ?_
    rintro e w1 ⟨rfl, m1, o1⟩
    have HM := Lib.hid m1
    obtain ⟨A, c, k1, -⟩ := m1
    have hc1 : w1.cell? ⟨g, 1, none⟩ = some (.bool true) := by rw [k1.cell, hb]; rfl
    clear k1
    go_wp2
    go_ret
    exact ⟨_, rfl, Own.nil _ _, HM.out, o1⟩
  | false =>
    go_enter Try.func60, Try.ntmps60
    go_wp2_with fail
    refine (mnum_any w base g s h hs).mono ?_
    rintro e w1 ⟨rfl, m1, o1⟩
    have HM := Lib.hid m1
    obtain ⟨A, c, k1, -⟩ := m1
    have hc1 : w1.cell? ⟨g, 1, none⟩ = some (.bool false) := by rw [k1.cell, hb]; rfl
    clear k1
    go_wp2_with fail
    refine (mtake_any w1 base g (s.take 8) s.num HM.out (num_range s).1 (num_range s).2 (by omega)).mono ?_
    rintro e w2 ⟨v, rfl, h2, m2, o2⟩
    go_wp2
    go_ret
    exact ⟨v, rfl, h2.weaken o1.size, m2, o1.trans o2 (Fresh.refl _ _)⟩
theorem app_int {w : World} {ops : Array Oper} {rest : List Oper} {o : Oper} {a : Act} {Q : Exit → Act → World → Prop} (s x : Operand)
    (hgd : o.guard = none) (ho : o.op = .call { callee := .builtin .append, args := #[s, x], argTypes := #[26, 26] })
    (base : Nat) (v : Value) (n : Nat) (l : List Int) (hs : a.eval s = v) (hown : OwnI w base v n l)
    (B : Nat) (A : Option Addr) (m c : Nat) (news : List Int) (hx : a.eval x = .slice A m c) (hr : Ints w B A m news)
    (hsz : n + m ≤ 10000000) (hbase : base ≤ w.heap.size)
    (h : ∀ v' w', OwnI w' base v' (n + m) (l ++ news) → w.grownBy w' v.ownBlock → (v'.ownBlock = v.ownBlock ∨ v'.ownBlock = some w.heap.size) → wpList Try.prog ops Q rest (a.put o.dst v') w') :
    wpList Try.prog ops Q (o :: rest) a w := by
  obtain ⟨i0, hi0, hz0, hz1, hz2⟩ := info_parts int_info
  refine wpList_append_any w hgd s x _ ho base 3 i0 _ 1 8 Try.underlying26 hi0 hz0 hz1 hz2 rfl (by omega) v n (i64s l) hs hown B A m c (i64s news) hx hr (by
    intro u hu
    obtain ⟨b, _, rfl⟩ := List.mem_map.1 hu
    rfl) (by simp only [maxLen]; omega) (by omega) hbase ?_
  intro v' w' h1 h2 h3
  exact h v' w' (by unfold OwnI; rw [i64s, List.map_append]; exact h1) h2 h3
theorem mnums_any (w : World) (base g : Nat) (s : RD) (h : Mr w base g s) (hs : s.bs.length ≤ 9000000) :
    Calls Try.prog 62 #[.pointer (some ⟨g, 0, none⟩)] w fun e w' => ∃ v, e = .returned v ∧ OwnI w' w.heap.size v s.nums.length s.nums ∧ Mr w' base g s.numsTo ∧ Only [g] w w' := by
  have hle := RD.take_le s 8
  have hgl := h.lt
  by_cases hmany : s.many = true
  · obtain ⟨q, hq⟩ : ∃ q : Nat, s.num = q := by
      simp [RD.many] at hmany
      exact ⟨s.num.toNat, by omega⟩
    have hto : s.numsTo = RD.run q (s.take 8) ∧ s.nums = RD.rows (s.take 8) q := by simp [RD.numsTo, RD.nums, hmany, hq]
    have hbad : (s.take 8).bad = false := by simp [RD.many] at hmany; exact hmany.2
    have hqs : q ≤ (s.take 8).bs.length / 8 := by simp [RD.many, hq] at hmany; omega
    rw [hto.1, hto.2, RD.rows_len]
    have hd : decide ((q : Int) < 0) = false := decide_eq_false (by omega)
    have hd2 : decide (((s.take 8).bs.length : Int) / 8 < (q : Int)) = false := decide_eq_false (by omega)
    clear hto hmany
    go_enter Try.func62, Try.ntmps62
    go_wp2_with fail
    refine (mnum_any w base g s h hs).mono ?_
    rintro e w1 ⟨rfl, m1, o1⟩
    have HM := Lib.hid m1
    have HO := Lib.hid o1
    obtain ⟨A, c, k1, -⟩ := m1
    have hc0 : w1.cell? ⟨g, 0, none⟩ = some (.slice A (s.take 8).bs.length c) := by rw [k1.cell]; rfl
    have hc1 : w1.cell? ⟨g, 1, none⟩ = some (.bool false) := by rw [k1.cell, hbad]; rfl
    clear k1 o1
    go_wp2
    go_loopw [4, 5] (fun v i wr => ∃ k : Nat, k ≤ q ∧ i = .int .i64 k ∧ OwnI wr w.heap.size v k (RD.rows (s.take 8) k) ∧ Mr wr base g (RD.run k (s.take 8)) ∧ Only [g] w wr) (fun _ i _ => q - (intOf i).toNat)
    case atStart => exact ⟨0, Nat.zero_le _, rfl, World.ownsRow_nil _ _ _ _, HM.out, HO.out⟩
    case round =>
      obtain ⟨k, hk, rfl, hv, hm, ho⟩ := hrel
      by_cases hlt : k < q
      · obtain ⟨A1, c1, rfl, hA1⟩ := hv.form
        have hle2 : ∀ k, (RD.run k (s.take 8)).bs.length ≤ (s.take 8).bs.length := fun k => by
          induction k with
          | zero => exact Nat.le_refl _
          | succ k ih => exact Nat.le_trans (RD.take_le _ 8) ih
        have hlk := hle2 k
        have HV := Lib.hid hv
        have HM2 := Lib.hid hm
        have HO2 := Lib.hid ho
        clear hv hm ho hc0 hc1
        go_wp2_with fail
        refine (mnum_any wr base g _ HM2.out (by omega)).mono ?_
        rintro e w3 ⟨rfl, m3, o3⟩
        have hV3 : OwnI w3 w.heap.size (.slice A1 k c1) k (RD.rows (s.take 8) k) := row_of HV.out fun j hj => o3.block j (row_under HV.out j hj) (fun hm => by
          simp at hm
          subst hm
          have := row_over HV.out j hj
          omega)
        have HM3 := Lib.hid m3
        have HO3 := Lib.hid (HO2.out.trans o3 (Fresh.refl _ _))
        generalize hx : (RD.run k (s.take 8)).num = x at *
        have HX := Lib.hid hx
        have hV4 := Lib.hid (World.ownsRow.alloc hV3 (.cells (i64s [x]).toArray 3))
        have hnew : Ints (w3.alloc (.cells (i64s [x]).toArray 3)) (w3.heap.size + 1) (some ⟨w3.heap.size, 0, none⟩) 1 [x] := Reads.new w3 (i64s [x]) 3 (0, 0)
        have hsz : w.heap.size ≤ (w3.alloc (.cells (i64s [x]).toArray 3)).heap.size := Nat.le_trans HO3.out.size (by simp)
        clear m3 o3 hV3 hx
        go_wp2_with (refine app_int (.tmp 37) (.tmp 40) rfl rfl w.heap.size (.slice A1 k c1) k (RD.rows (s.take 8) k) rfl hV4.out _ _ 1 1 [x] rfl hnew (by omega) hsz ?_
                     intro v5 w5 h5 g5 a5)
        go_roundw
        case rel =>
          have hgo : ∀ j, (Value.slice A1 k c1).ownBlock = some j → w.heap.size ≤ j := fun j hj => (World.ownsRow.lt hV4.out j hj).1
          have o5 : Only [g] w w5 := (HO3.out.alloc _).grown g5 (fun j hj => .inr (hgo j hj))
          refine ⟨k + 1, by omega, by go_num, ?_, ?_, o5⟩
          · rw [RD.rows, HX.out]; exact h5
          · have m4 := HM3.out.below (below_alloc w3 (.cells (i64s [x]).toArray 3))
            refine m4.of ?_ ?_
            · exact ⟨g5.os, g5.tape, g5.output, g5.size, fun j hj => g5.block j (Nat.lt_of_lt_of_le (Nat.lt_trans (Nat.lt_of_lt_of_le hj m4.over) m4.lt) (Nat.le_refl _)) (fun e => by
                have := hgo j e.symm
                have := m4.over
                omega)⟩
            · exact g5.block g m4.lt (fun e => by have := hgo g e.symm; omega)
        case measure => simp [intOf]; omega
      · obtain rfl : k = q := by omega
        have HV := Lib.hid hv
        clear hv
        go_wp2
        go_ret
        exact ⟨_, rfl, HV.out, hm, ho⟩
  · have hto : s.numsTo = RD.spoilt ∧ s.nums = [] := by simp [RD.numsTo, RD.nums, hmany]
    rw [hto.1, hto.2]
    have hcase : (s.take 8).bad = true ∨ ((s.take 8).bad = false ∧ (s.num < 0 ∨ (0 ≤ s.num ∧ (((s.take 8).bs.length / 8 : Nat) : Int) < s.num))) := by
      cases hb : (s.take 8).bad with
      | true => exact .inl rfl
      | false =>
        refine .inr ⟨rfl, ?_⟩
        simp [RD.many, hb] at hmany
        rcases Int.lt_or_le s.num 0 with h | h
        · exact .inl h
        · exact .inr ⟨h, by have := hmany h; omega⟩
    clear hto hmany
    go_enter Try.func62, Try.ntmps62
    go_wp2_with fail
    refine (mnum_any w base g s h hs).mono ?_
    rintro e w1 ⟨rfl, m1, o1⟩
    have HSP := Lib.hid (mspoil_cells m1)
    have HO := Lib.hid o1
    obtain ⟨A, c, k1, -⟩ := m1
    have hc0 : w1.cell? ⟨g, 0, none⟩ = some (.slice A (s.take 8).bs.length c) := by rw [k1.cell]; rfl
    have hc1 : w1.cell? ⟨g, 1, none⟩ = some (.bool (s.take 8).bad) := by rw [k1.cell]; rfl
    have hf0 : w1.frozen? ⟨g, 0, none⟩ = false := k1.frozen _
    have hf1 : w1.frozen? ⟨g, 1, none⟩ = false := k1.frozen _
    clear k1 o1
    rcases hcase with hb | ⟨hb, hn | ⟨hn0, hn⟩⟩
    · rw [hb] at hc1
      go_wp2
      go_ret
      exact ⟨_, rfl, World.ownsRow_nil _ _ _ _, HSP.out.1, HO.out.trans HSP.out.2 (Fresh.refl _ _)⟩
    · rw [hb] at hc1
      have hd : decide (s.num < 0) = true := decide_eq_true hn
      go_wp2
      go_ret
      exact ⟨_, rfl, World.ownsRow_nil _ _ _ _, HSP.out.1, HO.out.trans HSP.out.2 (Fresh.refl _ _)⟩
    · rw [hb] at hc1
      have hd : decide (s.num < 0) = false := decide_eq_false (by omega)
      have hd2 : decide (((s.take 8).bs.length : Int) / 8 < s.num) = true := decide_eq_true (by omega)
      go_wp2
      go_ret
      exact ⟨_, rfl, World.ownsRow_nil _ _ _ _, HSP.out.1, HO.out.trans HSP.out.2 (Fresh.refl _ _)⟩
end Go.Proofs.Yteghbfkkpnlilaa

/-
  The document's Good. Conditions: the object reads as it is said to, and is no larger than what is looked at.
-/
namespace Go.Proofs.Yteghbfkkpnlilaa
open Go.RowKit Go.BigFrame
set_option linter.unusedSimpArgs false
set_option linter.unusedVariables false
set_option maxRecDepth 100000
theorem good_steps {o : OV} (g : Good o) : ∀ (j : Nat) (x y : Int), (0 :: snAll o.cl)[j]? = some x → (0 :: snAll o.cl)[j + 1]? = some y → x < y ∧ y ≤ o.sq := by
  intro j x y hx hy
  rw [List.getElem?_cons_succ] at hy
  have h1 := g.lim y (List.mem_of_getElem? hy)
  refine ⟨?_, h1.2⟩
  cases j with
  | zero =>
    rw [List.getElem?_cons_zero] at hx
    injection hx with hx
    omega
  | succ j =>
    rw [List.getElem?_cons_succ] at hx
    have hu := g.up
    rw [List.pairwise_iff_getElem] at hu
    obtain ⟨k1, e1⟩ := List.getElem?_eq_some_iff.1 hx
    obtain ⟨k2, e2⟩ := List.getElem?_eq_some_iff.1 hy
    have := hu j (j + 1) k1 k2 (by omega)
    rwa [e1, e2] at this
theorem steps_good {q : Int} : ∀ (L : List Int) (a : Int), a ≤ q → (∀ (j : Nat) (x y : Int), (a :: L)[j]? = some x → (a :: L)[j + 1]? = some y → x < y ∧ y ≤ q) → riseB a L = true ∧ topI a L ≤ q
  | [], a, ha, _ => ⟨rfl, ha⟩
  | s :: L, a, ha, h => by
    have h0 := h 0 a s rfl rfl
    have ih := steps_good L s h0.2 (fun j x y hx hy => h (j + 1) x y hx hy)
    rw [riseB, Bool.and_eq_true, decide_eq_true_iff, topI]
    exact ⟨⟨h0.1, ih.1⟩, ih.2⟩
theorem snAll_snoc {cl : List CA} {k : Nat} {c : CA} (h : cl[k]? = some c) : snAll ((cl.take (k + 1)).map CA.v) = snAll ((cl.take k).map CA.v) ++ c.sn := by
  rw [take_snocI h, List.map_append, snAll, snAll, List.flatMap_append]
  simp [CA.v]
theorem snAll_len (cl : List CA) (h : ∀ c ∈ cl, c.sn.length ≤ 10000) : (snAll (cl.map CA.v)).length ≤ 10000 * cl.length := by
  induction cl with
  | nil => simp [snAll]
  | cons c cl ih =>
    have h1 := h c (by simp)
    have h2 := ih (fun c hc => h c (by simp [hc]))
    rw [List.map_cons, snAll, List.flatMap_cons, List.length_append, List.length_cons]
    simp only [snAll] at h2
    simp only [CA.v] at h2 ⊢
    omega
set_option maxHeartbeats 8000000 in
theorem rgood_any {w : World} (o : OA) (h : o.R w) (hS : o.Sm) : Calls Try.prog 22 #[.agg o.cs] w (GoodTo w o.v) := by
  obtain ⟨w0, hw0⟩ : ∃ w0, w0 = w.alloc (.cells o.cs 25) := ⟨_, rfl⟩
  have hb0 : Below w.heap.size w w0 := by rw [hw0]; exact below_alloc w _
  have hz0 : w0.heap.size = w.heap.size + 1 := by rw [hw0]; simp
  have K0 : Blk w0 w.heap.size 25 o.cs := by rw [hw0]; exact Blk.new w _ _
  have x0 : w0.cell? ⟨w.heap.size, 0, none⟩ = some (.bool o.th) := K0.cell 0
  have x1 : w0.cell? ⟨w.heap.size, 1, none⟩ = some (.slice o.D o.dt.length o.cd) := K0.cell 1
  have x2 : w0.cell? ⟨w.heap.size, 2, none⟩ = some (.int .i64 o.sq) := K0.cell 2
  have x3 : w0.cell? ⟨w.heap.size, 3, none⟩ = some (.slice o.C o.cl.length o.cc) := K0.cell 3
  have H := Lib.hid (And.intro hb0 (And.intro K0 (h.since hb0)))
  have HS := Lib.hid hS
  have hcn := hS.cn
  have hdn := hS.dt
  have HQ := Lib.hid (And.intro h.q1 h.q2)
  have HWE := Lib.hid hw0
  have hcs : o.cs = #[.bool o.th, .slice o.D o.dt.length o.cd, .int .i64 o.sq, .slice o.C o.cl.length o.cc] := rfl
  have HV : Hid (o.v = ⟨o.th, o.dt, o.sq, o.cl.map CA.v⟩) := Lib.hid rfl
  rw [hcs] at HWE ⊢
  clear h hS hw0 hb0 K0 hcs
  obtain ⟨nd, hnd⟩ : ∃ nd, nd = o.dt.length := ⟨_, rfl⟩
  have HND := Lib.hid hnd
  rw [← hnd] at HWE x1 hdn ⊢
  obtain ⟨th, hth⟩ : ∃ th, th = o.th := ⟨_, rfl⟩
  have HTH := Lib.hid hth
  rw [← hth] at HWE x0 ⊢
  clear hnd hth
  by_cases n1 : (256 : Int) < (nd : Int)
  · have HN : Hid (¬ Good o.v) := Lib.hid fun g => by have h1 := g.dt; rw [HV.out] at h1; have := HND.out; simp only at h1; omega
    have e1 : decide ((256 : Int) < (nd : Int)) = true := decide_eq_true n1
    go_enter Try.func22, Try.ntmps22
    go_upto_region 1 with (fail)
    rw [← HWE.out]
    clear HWE
    go_wp2
    go_ret
    exact GoodTo.no HN.out H.out.1
  have e1 : decide ((256 : Int) < (nd : Int)) = false := decide_eq_false n1
  by_cases n2 : th = false ∧ 0 < nd
  · have HN : Hid (¬ Good o.v) := Lib.hid fun g => by
      have h1 := g.th
      rw [HV.out] at h1
      have h2 := h1 (by simp only; rw [← HTH.out]; exact n2.1)
      simp only at h2
      have h3 := HND.out
      rw [h2] at h3
      simp at h3
      omega
    obtain ⟨rfl, n2⟩ := n2
    have e2 : decide ((0 : Int) < (nd : Int)) = true := decide_eq_true (by omega)
    have e2n : decide (0 < nd) = true := decide_eq_true n2
    go_enter Try.func22, Try.ntmps22
    go_upto_region 1 with (fail)
    rw [← HWE.out]
    clear HWE
    go_wp2
    go_ret
    exact GoodTo.no HN.out H.out.1
  have e2 : th = true ∨ (th = false ∧ decide ((0 : Int) < (nd : Int)) = false ∧ decide (0 < nd) = false) := by
    cases th with
    | true => exact .inl rfl
    | false =>
      have e3z : nd = 0 := by rcases Nat.eq_zero_or_pos nd with h | h; exact h; exact absurd ⟨rfl, by omega⟩ n2
      exact .inr ⟨rfl, decide_eq_false (by omega), decide_eq_false (by omega)⟩
  have HT : Hid (o.th = false → o.dt = []) := Lib.hid fun ht => by
    refine List.eq_nil_of_length_eq_zero ?_
    rw [← HND.out]
    rcases Nat.eq_zero_or_pos nd with h | h
    · exact h
    · exact absurd ⟨by rw [HTH.out]; exact ht, h⟩ n2
  have HD : Hid (o.dt.length ≤ 256) := Lib.hid (by rw [← HND.out]; omega)
  clear n1 n2
  by_cases n3 : o.sq < 0
  · have HN : Hid (¬ Good o.v) := Lib.hid fun g => by have h1 := g.sq; rw [HV.out] at h1; simp only at h1; omega
    have e3 : decide (o.sq < 0) = true := decide_eq_true n3
    rcases e2 with rfl | ⟨rfl, e21, e22⟩
    all_goals
      go_enter Try.func22, Try.ntmps22
      go_upto_region 1 with (fail)
      rw [← HWE.out]
      clear HWE
      go_wp2
      go_ret
      exact GoodTo.no HN.out H.out.1
  have e3 : decide (o.sq < 0) = false := decide_eq_false n3
  by_cases n4 : (16 : Int) < (o.cl.length : Int)
  · have HN : Hid (¬ Good o.v) := Lib.hid fun g => by have h1 := g.cn; rw [HV.out] at h1; simp only [List.length_map] at h1; omega
    have e4 : decide ((16 : Int) < (o.cl.length : Int)) = true := decide_eq_true n4
    rcases e2 with rfl | ⟨rfl, e21, e22⟩
    all_goals
      go_enter Try.func22, Try.ntmps22
      go_upto_region 1 with (fail)
      rw [← HWE.out]
      clear HWE
      go_wp2
      go_ret
      exact GoodTo.no HN.out H.out.1
  have e4 : decide ((16 : Int) < (o.cl.length : Int)) = false := decide_eq_false n4
  clear hdn
  have HZ0 := Lib.hid hz0
  clear hz0
  rcases e2 with rfl | ⟨rfl, e21, e22⟩
  all_goals
    go_enter Try.func22, Try.ntmps22
    go_upto_region 1 with (fail)
    rw [← HWE.out]
    clear HWE
    go_wp2
    generalize hw1 : w0.alloc (.cells #[.int .i64 0] 3) = w1 at *
    have HW1 : Hid (OwnI w1 w0.heap.size (.slice (some ⟨w0.heap.size, 0, none⟩) 1 1) 1 [0] ∧ Below w0.heap.size w0 w1) := Lib.hid (by
      rw [← hw1]
      exact ⟨OwnI.of_blk (l := [0]) (Blk.new w0 3 (i64s [0]).toArray) rfl (Nat.le_refl _) (by omega), below_alloc w0 _⟩)
    clear hw1 x0 x1
    go_loopw [3, 4] (fun v i wr => ∃ (k : Nat) (L : List Int), k ≤ o.cl.length ∧ i = .int .i64 k ∧ L = 0 :: snAll ((o.cl.take k).map CA.v) ∧ (∀ c ∈ o.cl.take k, ClG c.v) ∧ OwnI wr w0.heap.size v L.length L ∧ Below w0.heap.size w0 wr) (fun _ i _ => o.cl.length - (intOf i).toNat)
    case atStart => exact ⟨0, _, by omega, rfl, rfl, by simp, by simpa [snAll] using HW1.out.1, HW1.out.2⟩
    case round =>
      obtain ⟨k, L, hk, rfl, hL, hcg, ho, hbl⟩ := hrel
      have HI := Lib.hid (And.intro hL (And.intro hcg (And.intro ho hbl)))
      have HB := Lib.hid (H.out.1.trans (hbl.mono (by have := HZ0.out; omega)))
      have hwk : IntKind.i64.wrap ((k : Int) + 1) = (k : Int) + 1 := by rw [IntKind.wrap_i64]; omega
      have x2' : wr.cell? ⟨w.heap.size, 2, none⟩ = some (.int .i64 o.sq) := (hbl.cell (p := ⟨w.heap.size, 2, none⟩) (by have := HZ0.out; show w.heap.size < _; omega)).trans x2
      have x3' : wr.cell? ⟨w.heap.size, 3, none⟩ = some (.slice o.C o.cl.length o.cc) := (hbl.cell (p := ⟨w.heap.size, 3, none⟩) (by have := HZ0.out; show w.heap.size < _; omega)).trans x3
      have hRr := H.out.2.2.since hbl
      clear hL hcg ho hbl
      by_cases hlt : k < o.cl.length
      · obtain ⟨c, hck⟩ : ∃ c, o.cl[k]? = some c := ⟨_, List.getElem?_eq_getElem hlt⟩
        obtain ⟨ad, had, hl, hc⟩ := hRr.get hck
        have hcR := hRr.cl c (List.mem_of_getElem? hck)
        have hsm := HS.out.cl c (List.mem_of_getElem? hck)
        have hc0 := hc 0 _ rfl
        have c0' : wr.cell? (ad.add (k * 2)) = some (.slice c.S c.sn.length c.cs) := by simpa [Addr.add] using hc0
        have hc1 := hc 1 _ rfl
        have c1' : wr.cell? ⟨(ad.add (k * 2)).block, (ad.add (k * 2)).off + 1, none⟩ = some (.slice c.D c.dt.length c.cd) := by simpa [Addr.add] using hc1
        have HCK := Lib.hid (And.intro hck (And.intro hcR hsm))
        have hsm1 := hsm.1
        have hsm2 := hsm.2
        generalize o.C = oC at *
        subst had
        clear hck hcR hc hsm hRr
        by_cases m1 : c.sn.length = 0
        · have f1 : ((c.sn.length : Int) == 0) = true := by rw [m1]; rfl
          have HN : Hid (¬ Good o.v) := Lib.hid fun g => by
            rw [HV.out] at g
            exact (g.cl c.v (List.mem_map.2 ⟨c, List.mem_of_getElem? HCK.out.1, rfl⟩)).ne (List.eq_nil_of_length_eq_zero m1)
          clear m1
          go_wp2
          go_ret
          exact GoodTo.no HN.out HB.out
        have f1 : ((c.sn.length : Int) == 0) = false := beq_eq_false_iff_ne.2 (by omega)
        by_cases m2 : (256 : Int) < (c.dt.length : Int)
        · have f2 : decide ((256 : Int) < (c.dt.length : Int)) = true := decide_eq_true m2
          have HN : Hid (¬ Good o.v) := Lib.hid fun g => by
            rw [HV.out] at g
            have := (g.cl c.v (List.mem_map.2 ⟨c, List.mem_of_getElem? HCK.out.1, rfl⟩)).dt
            simp only [CA.v] at this
            omega
          go_wp2
          go_ret
          exact GoodTo.no HN.out HB.out
        have f2 : decide ((256 : Int) < (c.dt.length : Int)) = false := decide_eq_false m2
        have HCG : Hid (ClG c.v) := Lib.hid ⟨fun e => m1 (by simp only [CA.v] at e; rw [e]; rfl), by simp only [CA.v]; omega⟩
        have HLL : Hid (L.length ≤ 170000) := Lib.hid (by
          rw [HI.out.1, List.length_cons]
          have h1 := snAll_len (o.cl.take k) (fun c hc => (HS.out.cl c (List.mem_of_mem_take hc)).1)
          have h2 : (o.cl.take k).length ≤ 16 := by rw [List.length_take]; omega
          omega)
        clear m1 m2
        go_wp2_with (refine app_ints (.tmp 58) (.tmp 64) rfl rfl w0.heap.size _ _ _ rfl HI.out.2.2.1 _ c.S c.sn.length c.cs c.sn rfl HCK.out.2.1.sn (by have := HLL.out; omega) HI.out.2.2.2.size ?_
                     intro v5 w5 h5 g5 a5
                     have HV5 := Lib.hid (And.intro h5 (HI.out.2.2.2.grown g5 HI.out.2.2.2.size (fun b hb => by have := (World.ownsRow.lt HI.out.2.2.1 b hb).1; omega)))
                     clear h5 g5 a5)
        go_roundw
        case rel =>
          refine ⟨k + 1, L ++ c.sn, by omega, by go_num, ?_, ?_, by rw [List.length_append]; exact HV5.out.1, HV5.out.2⟩
          · rw [HI.out.1, snAll_snoc HCK.out.1]
            rfl
          · intro c' hc'
            rw [take_snocI HCK.out.1] at hc'
            rcases List.mem_append.1 hc' with h | h
            · exact HI.out.2.1 c' h
            · simp at h
              rw [h]
              exact HCG.out
        case measure => simp [intOf]; omega
      · obtain rfl : k = o.cl.length := by omega
        obtain ⟨Av, cv, hv⟩ := HI.out.2.2.1.form2
        have hint : Ints wr wr.heap.size Av L.length L := (show OwnI wr w0.heap.size (.slice Av L.length cv) L.length L from hv ▸ HI.out.2.2.1).ints
        have HIN := Lib.hid hint
        have HL : Hid (L = 0 :: snAll o.v.cl) := Lib.hid (by rw [HI.out.1, List.take_length, HV.out])
        have HSQ : Hid (o.v.sq = o.sq) := Lib.hid (by rw [HV.out])
        have HLL : Hid (L.length ≤ 170000) := Lib.hid (by
          rw [HI.out.1, List.length_cons]
          have h1 := snAll_len (o.cl.take o.cl.length) (fun c hc => (HS.out.cl c (List.mem_of_mem_take hc)).1)
          have h2 : (o.cl.take o.cl.length).length ≤ 16 := by rw [List.length_take]; omega
          omega)
        have hlen := HLL.out
        subst hv
        clear hint hRr
        rename World => wo
        go_wp2
        go_loopw [5] (fun i wr => ∃ j m : Nat, m = j + 1 ∧ i = .int .i64 m ∧ (j = 0 ∨ j + 1 ≤ L.length) ∧ (∀ (p : Nat) (x y : Int), p < j → L[p]? = some x → L[p + 1]? = some y → x < y ∧ y ≤ o.sq) ∧ Below wo.heap.size wo wr) (fun i _ => L.length - (intOf i).toNat)
        case atStart => exact ⟨0, 1, rfl, rfl, .inl rfl, fun p x y h => by omega, Below.refl _ _⟩
        case round =>
          obtain ⟨j, m, hm, rfl, hj0, hst, hbl⟩ := hrel
          have HM := Lib.hid hm
          have hsub : (m : Int) - 1 = (j : Int) := by omega
          have hm1 : 1 ≤ m := by omega
          have HST := Lib.hid hst
          have HBL := Lib.hid hbl
          have x2'' : wr.cell? ⟨w.heap.size, 2, none⟩ = some (.int .i64 o.sq) := (hbl.cell (World.block_lt_of_cell? wo _ x2')).trans x2'
          clear hst hbl hm
          by_cases hjl : m < L.length
          · have hd5 : decide ((m : Int) < (L.length : Int)) = true := decide_eq_true (by omega)
            obtain ⟨ad, x, hA, hx, hcx⟩ := (Ints.since HIN.out HBL.out).at_ (k := j) (by have := HM.out; omega)
            obtain ⟨ad', y, hA', hy, hcy⟩ := (Ints.since HIN.out HBL.out).at_ (k := m) hjl
            rw [hA] at hA'
            injection hA' with hA'
            subst hA'
            have HX := Lib.hid (And.intro hx (show L[j + 1]? = some y by rw [← HM.out]; exact hy))
            generalize Av = av at *
            subst hA
            clear hx hy
            by_cases hle : y ≤ x
            · have hd6 : decide (y ≤ x) = true := decide_eq_true hle
              have HN : Hid (¬ Good o.v) := Lib.hid fun g => by
                have := good_steps g j x y (by rw [← HL.out]; exact HX.out.1) (by rw [← HL.out]; exact HX.out.2)
                omega
              clear hle
              go_wp2
              go_quiet (fail)
              go_wp2
              go_ret
              exact GoodTo.no HN.out (below_drewN (HB.out.trans (HBL.out.mono HB.out.size)) _)
            · have hd6 : decide (y ≤ x) = false := decide_eq_false hle
              by_cases hgt : o.sq < y
              · have hd7 : decide (o.sq < y) = true := decide_eq_true hgt
                have HN : Hid (¬ Good o.v) := Lib.hid fun g => by
                  have := good_steps g j x y (by rw [← HL.out]; exact HX.out.1) (by rw [← HL.out]; exact HX.out.2)
                  rw [HSQ.out] at this
                  omega
                clear hle hgt
                go_wp2
                go_quiet (fail)
                go_wp2
                go_ret
                exact GoodTo.no HN.out (below_drewN (HB.out.trans (HBL.out.mono HB.out.size)) _)
              · have hd7 : decide (o.sq < y) = false := decide_eq_false hgt
                have HXY : Hid (x < y ∧ y ≤ o.sq) := Lib.hid ⟨by omega, by omega⟩
                have hwj : IntKind.i64.wrap ((m : Int) + 1) = (m : Int) + 1 := by rw [IntKind.wrap_i64]; omega
                clear hle hgt
                go_wp2
                go_quiet (fail)
                go_wp2
                go_roundw
                case rel =>
                  refine ⟨j + 1, m + 1, by rw [HM.out], by go_num, .inr (by have := HM.out; omega), fun p a b hp ha hb => ?_, below_drewN HBL.out _⟩
                  by_cases hpj : p = j
                  · subst hpj
                    rw [HX.out.1] at ha
                    rw [HX.out.2] at hb
                    injection ha with ha
                    injection hb with hb
                    subst ha hb
                    exact HXY.out
                  · exact HST.out p a b (by omega) ha hb
                case measure => simp [intOf]; omega
          · have hd5 : decide ((m : Int) < (L.length : Int)) = false := decide_eq_false (by omega)
            have HGo : Hid (Good o.v) := Lib.hid (by
              have h1 := steps_good (q := o.sq) (snAll o.v.cl) 0 (by omega) (fun p x y hx hy => by
                rw [← HL.out] at hx hy
                exact HST.out p x y (by have := (List.getElem?_eq_some_iff.1 hy).1; have := HM.out; omega) hx hy)
              refine (good_iff o.v).2 ⟨⟨by rw [HSQ.out]; omega, by rw [HV.out]; exact HD.out, by rw [HV.out]; exact HT.out, by rw [HV.out]; simp only [List.length_map]; omega⟩, ?_, h1.1, by rw [HSQ.out]; exact h1.2⟩
              intro c hc
              rw [HV.out] at hc
              obtain ⟨c', hc', rfl⟩ := List.mem_map.1 hc
              exact HI.out.2.1 c' (by rw [List.take_length]; exact hc'))
            go_wp2
            go_ret
            exact ⟨true, rfl, ⟨fun _ => HGo.out, fun _ => rfl⟩, HB.out.trans (HBL.out.mono HB.out.size)⟩
end Go.Proofs.Yteghbfkkpnlilaa

/-
  Memory while the document's Take reads an object: the reader, the object so far. Conditions: what stands in the structure.
-/
namespace Go.Proofs.Yteghbfkkpnlilaa
open Go.RowKit Go.BigFrame
set_option linter.unusedSimpArgs false
set_option linter.unusedVariables false
set_option maxRecDepth 100000
structure D9 (w : World) (gr g : Nat) (q : OA) (s : RD) (W : World) : Prop where
  rd : Mr W gr gr s
  ln : s.bs.length ≤ 7000
  hd : Blk W g 25 #[.bool q.th, .slice q.D q.dt.length q.cd, .int .i64 q.sq, .slice q.C q.cl.length q.cc]
  res : Blk W w.heap.size 25 #[.bool false, .slice none 0 0, .int .i64 0, .slice none 0 0]
  dt : Own W gr (.slice q.D q.dt.length q.cd) q.dt.length q.dt
  ok : ∀ b ∈ q.dt, b < 256
  row : OwnC 78 W gr (.slice q.C q.cl.length q.cc) q.cl
  cl : ∀ c ∈ q.cl, c.N W gr
  sq : -9223372036854775808 ≤ q.sq ∧ q.sq ≤ 9223372036854775807
  bel : Below w.heap.size w W
  c1 : w.heap.size < gr
  c2 : gr < g
section
variable {w W W' : World} {gr g : Nat} {q : OA} {s t : RD}
theorem row_stay9 {e : TypeId} {b size n g : Nat} {v : Value} {xs : List Value} {ty : TypeId} {cs : Array Value} (h : W.ownsRow b e size v n xs) (k : Blk W g ty cs) (hne : ty ≠ e) (o : Only [g] W W') : W'.ownsRow b e size v n xs :=
  row_of h fun j hj => o.block j (row_under h j hj) (fun hx => by
    simp at hx
    subst hx
    obtain ⟨cs', hb⟩ := own_ty h hj
    exact hb.ne_ k (Ne.symm hne) rfl)
theorem CA.N.stay9 {c : CA} {b g : Nat} {ty : TypeId} {cs : Array Value} (h : c.N W b) (k : Blk W g ty cs) (h1 : ty ≠ 3) (h2 : ty ≠ 5) (o : Only [g] W W') : c.N W' b :=
  ⟨row_stay9 h.sn k h1 o, row_stay9 h.dt k h2 o, h.ok, h.i1⟩
theorem D9.call (D : D9 w gr g q s W) (o : Only [gr] W W') (hm : Mr W' gr gr t) (hl : t.bs.length ≤ 7000) : D9 w gr g q t W' := by
  obtain ⟨A, c, k, -⟩ := D.rd
  have c1 := D.c1
  have c2 := D.c2
  exact ⟨hm, hl, D.hd.only o (by simp; omega), D.res.only o (by simp; omega), row_stay9 D.dt k (by decide) o, D.ok, row_stay9 D.row k (by decide) o, fun c hc => (D.cl c hc).stay9 k (by decide) (by decide) o, D.sq, D.bel.trans (o.below (fun k hk => by simp at hk; omega) D.bel.size), D.c1, D.c2⟩
theorem D9.below (D : D9 w gr g q s W) (b : Below W.heap.size W W') : D9 w gr g q s W' :=
  ⟨D.rd.below b, D.ln, D.hd.of (b.block _ D.hd.lt), D.res.of (b.block _ D.res.lt), row_of D.dt fun k hk => b.block k (row_under D.dt k hk), D.ok, D.row.below b, fun c hc => (D.cl c hc).below b, D.sq, D.bel.trans (b.mono D.bel.size), D.c1, D.c2⟩
theorem D9.aside {gx : Nat} {ty : TypeId} {cs : Array Value} (D : D9 w gr g q s W) (k : Blk W gx ty cs) (h1 : ty ≠ 3) (h2 : ty ≠ 5) (h3 : gr < gx) (h4 : gx ≠ g) (h5 : ∀ j ∈ rowOf (.slice q.C q.cl.length q.cc), j ≠ gx) (o : Only [gx] W W') : D9 w gr g q s W' := by
  have c1 := D.c1
  have c2 := D.c2
  have hs := D.hd.lt
  refine ⟨D.rd.of (o.below (B := gr) (fun j hj => by simp at hj; omega) (by omega)) (o.block _ (by omega) (by simp; omega)), D.ln, D.hd.only o (by simp; omega), D.res.only o (by simp; omega), row_stay9 D.dt k h2 o, D.ok, row_of D.row fun j hj => o.block j (row_under D.row j hj) (by simp; exact h5 j hj), fun c hc => (D.cl c hc).stay9 k h1 h2 o, D.sq, D.bel.trans (o.below (fun j hj => by simp at hj; omega) D.bel.size), D.c1, D.c2⟩
theorem D9.put {q' : OA} (D : D9 w gr g q s W) (o : Only [g] W W') (k : Blk W' g 25 #[.bool q'.th, .slice q'.D q'.dt.length q'.cd, .int .i64 q'.sq, .slice q'.C q'.cl.length q'.cc]) (hdt : Own W gr (.slice q'.D q'.dt.length q'.cd) q'.dt.length q'.dt) (hok : ∀ b ∈ q'.dt, b < 256) (hrow : OwnC 78 W gr (.slice q'.C q'.cl.length q'.cc) q'.cl) (hcl : ∀ c ∈ q'.cl, c.N W gr) (hsq : -9223372036854775808 ≤ q'.sq ∧ q'.sq ≤ 9223372036854775807) : D9 w gr g q' s W' := by
  have c1 := D.c1
  have c2 := D.c2
  have hs := D.hd.lt
  exact ⟨D.rd.of (o.below (B := gr) (fun j hj => by simp at hj; omega) (by omega)) (o.block _ (by omega) (by simp; omega)), D.ln, k, D.res.only o (by simp; omega), row_stay9 hdt D.hd (by decide) o, hok, row_stay9 hrow D.hd (by decide) o, fun c hc => (hcl c hc).stay9 D.hd (by decide) (by decide) o, hsq, D.bel.trans (o.below (fun j hj => by simp at hj; omega) D.bel.size), D.c1, D.c2⟩
theorem D9.grow {W3 : World} {c : CA} {v3 : Value} (D : D9 w gr g q s W) (hc : c.N W gr) (h3 : OwnC 78 W3 gr v3 (q.cl ++ [c])) (g3 : W.grownBy W3 (Value.slice q.C q.cl.length q.cc).ownBlock) :
    (Mr W3 gr gr s ∧ Blk W3 g 25 #[.bool q.th, .slice q.D q.dt.length q.cd, .int .i64 q.sq, .slice q.C q.cl.length q.cc] ∧ Blk W3 w.heap.size 25 #[.bool false, .slice none 0 0, .int .i64 0, .slice none 0 0]) ∧ Own W3 gr (.slice q.D q.dt.length q.cd) q.dt.length q.dt ∧ (∀ c' ∈ q.cl ++ [c], c'.N W3 gr) ∧ Below w.heap.size w W3 := by
  have c1 := D.c1
  have c2 := D.c2
  have hs := D.hd.lt
  have hrow := D.row
  have hty : ∀ {e : TypeId} {b n : Nat} {v : Value} {xs : List Value} {size : Nat}, W.ownsRow b e size v n xs → e ≠ 78 → W3.ownsRow b e size v n xs := fun {e b n v xs size} hr hne => row_of hr fun j hj => g3.block j (row_under hr j hj) (fun e1 => by
    obtain ⟨cs1, hb1⟩ := own_ty hr hj
    obtain ⟨cs2, hb2⟩ := own_ty hrow (k := j) (mem_rowOf.2 e1.symm)
    exact hb1.ne_ hb2 hne rfl)
  have hN : ∀ {c' : CA}, c'.N W gr → c'.N W3 gr := fun h => ⟨hty h.sn (by decide), hty h.dt (by decide), h.ok, h.i1⟩
  have hov : ∀ k, (Value.slice q.C q.cl.length q.cc).ownBlock = some k → gr ≤ k := fun k e => row_over hrow k (mem_rowOf.2 e)
  have hbB : ∀ {b : Nat} {ty : TypeId} {cs : Array Value}, Blk W b ty cs → ty ≠ 78 → Blk W3 b ty cs := fun hb hne => hb.grown g3 (fun e => own_blk_ne hrow hb (Ne.symm hne) e.symm)
  obtain ⟨A, c0, kr, hx⟩ := D.rd
  refine ⟨⟨D.rd.of ((Below.refl gr W).grown g3 (by omega) (fun k e => hov k e)) ?_, hbB D.hd (by decide), hbB D.res (by decide)⟩, hty D.dt (by decide), fun c' hm => ?_, ?_⟩
  · have h1 := hbB kr (by decide)
    exact h1.trans kr.symm
  · rcases List.mem_append.1 hm with hm | hm
    · exact hN (D.cl c' hm)
    · simp at hm
      subst hm
      exact hN hc
  · exact D.bel.grown g3 D.bel.size (fun k e => by have := hov k e; omega)
theorem D9.snoc {W3 W4 : World} {c : CA} {A4 : Option Addr} {c4 : Nat} (D : D9 w gr g q s W) (hc : c.N W gr) (h3 : OwnC 78 W3 gr (.slice A4 (q.cl ++ [c]).length c4) (q.cl ++ [c])) (g3 : W.grownBy W3 (Value.slice q.C q.cl.length q.cc).ownBlock) (o : Only [g] W3 W4)
    (K4 : Blk W4 g 25 #[.bool q.th, .slice q.D q.dt.length q.cd, .int .i64 q.sq, .slice A4 (q.cl ++ [c]).length c4]) : D9 w gr g ⟨q.th, q.dt, q.D, q.cd, q.sq, A4, c4, q.cl ++ [c]⟩ s W4 := by
  obtain ⟨⟨m3, k3, r3⟩, d3, n3, b3⟩ := D.grow hc h3 g3
  have c1 := D.c1
  have c2 := D.c2
  have hs := k3.lt
  exact ⟨m3.of (o.below (B := gr) (fun j hj => by simp at hj; omega) (by omega)) (o.block _ (by omega) (by simp; omega)), D.ln, K4, r3.only o (by simp; omega), row_stay9 d3 k3 (by decide) o, D.ok, row_stay9 h3 k3 (by decide) o, fun c hc => (n3 c hc).stay9 k3 (by decide) (by decide) o, D.sq, b3.trans (o.below (fun j hj => by simp at hj; omega) b3.size), D.c1, D.c2⟩
theorem D9.R (D : D9 w gr g q s W) {V : World} (hV : ∀ k, gr ≤ k → k < W.heap.size → V.heap[k]? = W.heap[k]?) : q.R V := by
  have hst : ∀ {e : TypeId} {n : Nat} {v : Value} {xs : List Value} {size : Nat}, W.ownsRow gr e size v n xs → V.ownsRow gr e size v n xs := fun hr => row_of hr fun j hj => hV j (row_over hr j hj) (row_under hr j hj)
  have hdt : Own V gr (.slice q.D q.dt.length q.cd) q.dt.length q.dt := hst D.dt
  have hrow : OwnC 78 V gr (.slice q.C q.cl.length q.cc) q.cl := hst D.row
  obtain ⟨-, d1, d2, -⟩ := own_shape hdt
  obtain ⟨-, c1, c2, -⟩ := own_shape hrow
  unfold maxLen at d2 c2
  exact ⟨hdt.bytes D.ok, Reads.of_own hrow, fun c hc => CA.N.R ⟨hst (D.cl c hc).sn, hst (D.cl c hc).dt, (D.cl c hc).ok, (D.cl c hc).i1⟩, D.sq.1, D.sq.2, by omega, by omega, d1, c1⟩
theorem D9.reads (D : D9 w gr g q s W) : q.R W := D.R fun _ _ _ => rfl
end
theorem dcL_stop {k : Nat} {s : RD} (h : k = 0 ∨ s.bad = true) : RD.dcL k s = [] ∧ RD.dcT k s = s := by
  cases k with
  | zero => exact ⟨rfl, rfl⟩
  | succ k =>
    have hb := h.resolve_left (by omega)
    rw [RD.dcL, RD.dcT, if_pos hb, if_pos hb]
    exact ⟨rfl, rfl⟩
theorem dcL_go {k : Nat} {s : RD} (h : 0 < k) (hb : s.bad = false) : RD.dcL k s = s.scl :: RD.dcL (k - 1) s.sclTo ∧ RD.dcT k s = RD.dcT (k - 1) s.sclTo := by
  cases k with
  | zero => omega
  | succ k =>
    rw [RD.dcL, RD.dcT, if_neg (by rw [hb]; simp), if_neg (by rw [hb]; simp)]
    exact ⟨rfl, rfl⟩
end Go.Proofs.Yteghbfkkpnlilaa
