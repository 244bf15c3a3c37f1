/-
  A journal's transactions, gone through: each comes with its number, as a fresh copy. Conditions: they lie where they are said to.
-/
import Derived.Test.YtpklcmocjimcpaaDoorZj
import Derived.Test.YtpklcmocjimcpaaDoorJtxC
import Derived.Test.YtpklcmocjimcpaaDoorGivenC
import Derived.Test.YtpklcmocjimcpaaDoorJrowC
namespace Go.Proofs.YtpklcmocjimcpaaDoor
open Go.RowKit Go.Shelf Go.BigFrame
set_option maxRecDepth 100000
attribute [local go_sem] Oper.semAt_some
set_option linter.unusedSimpArgs false
set_option linter.unusedVariables false
structure TxV where
  i : Nat
  A : Option Addr
  n : Nat
  c : Nat
def TxV.v (x : TxV) : Value := .slice x.A x.n x.c
def TxV.enc (x : TxV) : Array Value := #[.int .i64 (x.i : Int), x.v]
/-- these blocks, and all that hold bytes, are as they were -/
def KeepT (Ks : List Nat) (w w' : World) : Prop := w.heap.size ≤ w'.heap.size ∧ (∀ k ∈ Ks, w'.heap[k]? = w.heap[k]?) ∧ ∀ (k : Nat) (cs : Array Value) (f : Nat × Nat), w.heap[k]? = some (Obj.cells cs 5 f) → w'.heap[k]? = some (Obj.cells cs 5 f)
theorem KeepT.refl (Ks : List Nat) (w : World) : KeepT Ks w w := ⟨Nat.le_refl _, fun _ _ => rfl, fun _ _ _ h => h⟩
theorem KeepT.trans {Ks : List Nat} {a b c : World} (h : KeepT Ks a b) (h' : KeepT Ks b c) : KeepT Ks a c := ⟨Nat.le_trans h.1 h'.1, fun k hk => (h'.2.1 k hk).trans (h.2.1 k hk), fun k cs f hc => h'.2.2 k cs f (h.2.2 k cs f hc)⟩
theorem KeepT.below {Ks : List Nat} {w w' : World} (hb : Below w.heap.size w w') (hK : ∀ k ∈ Ks, k < w.heap.size) : KeepT Ks w w' := ⟨hb.size, fun k hk => hb.block k (hK k hk), fun k cs f h => (hb.block k (Array.getElem?_eq_some_iff.1 h).1).trans h⟩
theorem KeepT.put {Ks : List Nat} {w : World} {l : Nat} {o o' : Obj} (hK : ∀ k ∈ Ks, k < l) (hl : w.heap[l]? = some o) (ho : o.isCells = false) : KeepT Ks w (w.putObj l o') :=
  ⟨by simp, fun k hk => World.putObj_heap_other (by have := hK k hk; omega), fun k cs f h => by
    by_cases e : k = l
    · subst e
      rw [hl] at h
      injection h with h
      subst h
      cases ho
    · rw [World.putObj_heap_other e]; exact h⟩
theorem Own.keepT {Ks : List Nat} {w w' : World} {base : Nat} {v : Value} {n : Nat} {bs : List Nat} (h : Own w base v n bs) (hk : KeepT Ks w w') : Own w' base v n bs := by
  refine row_of h (fun k hk' => ?_)
  rcases h.2 with ⟨rfl, _⟩ | ⟨g, cap, cur, rfl, _, hh, _⟩
  · have := mem_rowOf.1 hk'; simp [Value.ownBlock] at this
  · have hg : k = g := by have := mem_rowOf.1 hk'; simp [Value.ownBlock] at this; exact this.symm
    subst hg
    rw [hh]
    exact hk.2.2 k cur (0, 0) hh
def TxOf (txs : List (List Nat)) (B : Nat) (x : TxV) (w : World) : Prop := ∃ t, txs[x.i]? = some t ∧ x.n = t.length ∧ Own w B x.v t.length t
/-- the first of them have come -/
def TxsCame (txs : List (List Nat)) (B m : Nat) (xs : List TxV) (w : World) : Prop := xs.length = m ∧ ∀ i t, i < m → txs[i]? = some t → ∃ x, xs[i]? = some x ∧ x.i = i ∧ x.n = t.length ∧ Own w B x.v t.length t
theorem txs_any {w : World} {gj n g gen u : Nat} {vs : Value} {A : Option Addr} {m c : Nat} {stuck : Bool} (hJ : Blk w gj 67 (jcells n g gen vs (.slice A m c) u stuck)) :
    Calls Tryd.prog 20 #[.pointer (some ⟨gj, 0, none⟩)] w fun e w' => e = .returned (.func (.func 43) #[] #[.pointer (some ⟨w.heap.size, 0, none⟩)]) ∧ Below w.heap.size w w' ∧ Boxed w' w.heap.size 36 (.slice A m c) ∧ w'.heap.size = w.heap.size + 1 := by
  have q5 : ∀ o, (w.alloc o).cell? ⟨gj, 5, none⟩ = some (.slice A m c) := fun o => (hJ.alloc o).cell 5
  clear hJ
  go_enter Tryd.func20, Tryd.ntmps20
  go_wp2
  go_ret
  refine ⟨rfl, ?_, ?_, ?_⟩
  · exact (Below.refl _ _).alloc (Nat.le_refl _) _
  · exact Boxed.new w _ _
  · simp
set_option maxRecDepth 100000 in
set_option maxHeartbeats 4000000 in
theorem txs1_gives (n₀ Bs base : Nat) (vt : Value) (txs : List (List Nat)) (us : List Value) (w : World) (hn₀ : n₀ ≤ w.heap.size) (hBs : Bs < w.heap.size) (hx : Boxed w Bs 36 vt) (ht : TxRows w base vt txs us) (h256 : ∀ t ∈ txs, ∀ b ∈ t, b < 256) (hmany : txs.length ≤ 100000) (hlong : ∀ t ∈ txs, t.length ≤ 5000) :
    Gives Fence.wide 4 Tryd.prog 43 #[.pointer (some ⟨Bs, 0, none⟩)] TxV.enc txs.length (TxOf txs n₀) (TxsCame txs n₀ txs.length) (KeepT (Bs :: txBlks vt us)) w := by
  intro l J W hW hJ HY hJ0
  have hro : Fence.wide.round = none := rfl
  obtain ⟨A, c, rfl⟩ := slice_of ht.1
  have hXW := Lib.hid (show Boxed W Bs 36 (.slice A txs.length c) from (hW.block Bs hBs).trans hx)
  have hTW := Lib.hid (ht.of (w' := W) (fun k hk => hW.block k (ht.over k hk).2))
  have hKl := Lib.hid (show ∀ k ∈ Bs :: txBlks (.slice A txs.length c) us, k < w.heap.size from fun k hk => by
    rcases List.mem_cons.1 hk with rfl | hk
    · exact hBs
    · exact (ht.over k hk).2)
  have hsW := hW.size
  have hcl := hXW.out.cell
  have HJ := Lib.hid hJ
  have HY := Lib.hid HY
  have HLO := Lib.hid hlong
  have H256 := Lib.hid h256
  clear hJ hx ht hlong h256 hW
  refine callsIn_of_wp Tryd.func43 rfl trivial ?_ hro
  simp only [Tryd.ntmps43, List.size_toArray, List.length_cons, List.length_nil, Nat.reduceAdd, Nat.reduceSub, Array.replicate_succ, Array.replicate_zero, List.push_toArray, List.append_toArray, List.nil_append, List.cons_append]
  gi_wp2
  clear hcl
  gi_loopw [3, 4, 7] (fun a b i wr => ∃ (k : Nat) (xs : List TxV), k ≤ txs.length ∧ i = .int .i64 k ∧ J xs wr ∧ TxsCame txs n₀ k xs wr ∧ KeepT (Bs :: txBlks (.slice A txs.length c) us) W wr) (fun _ _ i _ => txs.length - (intOf i).toNat)
  case atStart => exact ⟨0, [], Nat.zero_le _, rfl, hJ0, ⟨rfl, fun i t h => absurd h (Nat.not_lt_zero _)⟩, KeepT.refl _ _⟩
  case round =>
    obtain ⟨k, xs, hk, rfl, hJs, hcame, hkp⟩ := hrel
    by_cases hlt : k < txs.length
    · have hTr := hTW.out.of (w' := wr) (fun q hq => hkp.2.1 q (List.mem_cons_of_mem _ hq))
      have hx0 : txs[k]? = some (txs[k]'hlt) := List.getElem?_eq_getElem _
      have hmem : txs[k]'hlt ∈ txs := List.getElem_mem _
      generalize txs[k]'hlt = t at *
      have htl := HLO.out t hmem
      have ht256 := H256.out t hmem
      obtain ⟨ad, u, hA, -, hu, hc⟩ := (Reads.of_own hTr.1).at_ hlt
      subst hA
      obtain ⟨B, cc, e1, ho⟩ := hTr.2.2 k t hx0
      rw [e1] at hu
      injection hu with hu
      subst hu
      have HO := Lib.hid (ho.bytes ht256)
      have hk0 : (0 : Int) ≤ (k : Int) := by omega
      have hk1 : (k : Int) < (txs.length : Int) := by omega
      have HS := Lib.hid (And.intro hJs (And.intro hcame (And.intro hkp hx0)))
      have hsr := hkp.1
      clear hJs hcame hkp hx0 hTr ho e1 hmem
      gi_wp2_with (refine ⟨trivial, ?_⟩
                   gi_at_call 41
                   refine (callsIn_wide.2 (clone_any B t.length cc t _ _ (by omega) HO.out)).mono ?_
                   rintro e W2 ⟨v2, rfl, ho2, b2⟩
                   obtain ⟨A2, c2, rfl⟩ := slice_of ho2
                   have g2 : wr.grownBy W2 none := ⟨b2.os, b2.tape, b2.output, b2.size, fun i hi _ => b2.block i hi⟩
                   have hJ2 := HJ.out xs wr W2 none HS.out.1 g2 (fun r e => by cases e)
                   have HK2 := Lib.hid (show KeepT (Bs :: txBlks (.slice (some ad) txs.length c) us) wr W2 from KeepT.below b2 (fun q hq => by have := hKl.out q hq; omega))
                   have HO3 := Lib.hid (show Own W2 n₀ (.slice A2 t.length c2) t.length t from ho2.weaken (by omega))
                   obtain ⟨fn, tmps, assign, body, hy, hR⟩ := HY.out xs ⟨k, A2, t.length, c2⟩ W2 hJ2 ⟨t, HS.out.2.2.2, rfl, HO3.out⟩ (by rw [HS.out.2.1.1]; exact hlt)
                   clear g2 hJ2 ho2 b2
                   dsimp only [TxV.enc, TxV.v] at hy)
      refine hR.mono ?_
      rintro e W3 ⟨rfl, hJ3, hk3⟩
      have HJ3 := Lib.hid (And.intro hJ3 hk3)
      clear hJ3 hk3 hR
      gi_wp2
      go_roundw
      case rel =>
        refine ⟨k + 1, _, by omega, by go_num, HJ3.out.1, ?_, HS.out.2.2.1.trans (HK2.out.trans HJ3.out.2)⟩
        have hl := HS.out.2.1.1
        refine ⟨by simp [hl], fun i t' hi ht' => ?_⟩
        by_cases e : i < k
        · obtain ⟨x, y1, y2, y3, y4⟩ := HS.out.2.1.2 i t' e ht'
          exact ⟨x, by rw [List.getElem?_append_left (by omega)]; exact y1, y2, y3, (y4.keepT HK2.out).keepT HJ3.out.2⟩
        · obtain rfl : i = k := by omega
          obtain rfl : t = t' := Option.some.inj (HS.out.2.2.2.symm.trans ht')
          exact ⟨⟨i, A2, t.length, c2⟩, by rw [List.getElem?_append_right (by omega), hl]; simp, rfl, rfl, HO3.out.keepT HJ3.out.2⟩
      case measure => simp [intOf]; omega
    · obtain rfl : k = txs.length := by omega
      gi_wp2
      go_end0
      exact ⟨⟨_, rfl⟩, xs, hcame, hJs⟩
end Go.Proofs.YtpklcmocjimcpaaDoor
