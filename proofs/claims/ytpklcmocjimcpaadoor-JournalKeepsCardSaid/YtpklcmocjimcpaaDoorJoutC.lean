/-
  A journal's calls on an armed disk: done, refused, or cut by the power, and what Open finds behind a crash. Conditions: small numbers.
-/
import Derived.Test.YtpklcmocjimcpaaDoorZj
import Derived.Test.YtpklcmocjimcpaaDoorJcutC
import Derived.Test.YtpklcmocjimcpaaDoorJckC
import Derived.Test.YtpklcmocjimcpaaDoorJwbC
namespace Go.Proofs.YtpklcmocjimcpaaDoor
open Go.RowKit
set_option maxRecDepth 100000
set_option linter.unusedSimpArgs false
set_option linter.unusedVariables false
/-- behind a crash, whichever writes are kept, the one or the other stands there -/
def Cuts (d : DM) (n : Nat) (st : List Nat) (txs : List (List Nat)) (st' : List Nat) (txs' : List (List Nat)) : Prop :=
  d.wait.length ≤ 1000000 ∧ ∀ keep : List Bool, ∃ f s gen S T u, d.crash keep = DM.idle n f s 0 ∧ JShow f n gen S T u ∧ ((S = st ∧ T = txs) ∨ (S = st' ∧ T = txs'))
theorem Cuts.n_ {d : DM} {n : Nat} {st st' : List Nat} {txs txs' : List (List Nat)} (h : Cuts d n st txs st' txs') : d.n = n := by
  obtain ⟨f, s, gen, S, T, u, e, -⟩ := h.2 []
  exact congrArg DM.n e
theorem waitsOf_len : ∀ (ss : List Sec) (i : Nat), (waitsOf i ss).length = ss.length
  | [], i => rfl
  | s :: ss, i => by simp [waitsOf, waitsOf_len ss]
theorem take_one_of {α : Type} (x : α) (m : Nat) (h : m ≤ 1) : m = 0 ∧ [x].take m = [] ∨ m = 1 ∧ [x].take m = [x] := by
  have : m = 0 ∨ m = 1 := by omega
  rcases this with rfl | rfl
  · exact .inl ⟨rfl, rfl⟩
  · exact .inr ⟨rfl, rfl⟩
theorem arms_app {n s l gen u : Nat} {f : Int → Sec} {st tx : List Nat} {txs : List (List Nat)} (h : JFine f n gen st txs u) (hne : tx ≠ []) (h256 : ∀ b ∈ tx, b < 256) (hl : tx.length ≤ 5000) (hf : u + pn tx + 1 ≤ logOf n) :
    (pn tx + 3 ≤ l → (DM.arms n f s l).app n gen u tx = (DM.arms n (appF n f gen u tx) (s + pn tx + 3) (l - (pn tx + 3)), 0)) ∧
    (l < pn tx + 3 → ((DM.arms n f s l).app n gen u tx).2 = 3 ∧ Cuts ((DM.arms n f s l).app n gen u tx).1 n st txs st (txs ++ [tx])) := by
  have hin := log_in h.ok.n8
  have hpn : pn tx ≤ 48 := by unfold pn; omega
  have hb1 : logAt n + u + (bodyS 3 gen u tx).length ≤ n := by rw [body_len]; omega
  have he1 : logAt n + (u + pn tx) + (endS gen (u + pn tx) (pn tx)).length ≤ n := by simp [endS]; omega
  have hbody : ∀ (kept : Nat → Bool) (m : Nat) (j : Int), settled kept 0 (waitsOf (logAt n + u) ((bodyS 3 gen u tx).take m)) f j = f j ∨ ∃ k, k < pn tx ∧ j = ((logAt n + (u + k) : Nat) : Int) ∧ settled kept 0 (waitsOf (logAt n + u) ((bodyS 3 gen u tx).take m)) f j = sealRes 3 gen ((u : Int) + (k : Int)) (prow tx k) := fun kept m j => by
    rcases settled_some kept ((bodyS 3 gen u tx).take m) (logAt n + u) 0 f j with e | ⟨k, x, e1, e2, e3⟩
    · exact .inl e
    · right
      rw [List.getElem?_take] at e1
      split at e1
      · have hk : k < pn tx := by
          have := (List.getElem?_eq_some_iff.1 e1).1
          rwa [body_len] at this
        rw [body_at hk] at e1
        injection e1 with e1
        exact ⟨k, hk, by rw [e2, Nat.add_assoc], by rw [e3, ← e1]; rfl⟩
      · cases e1
  constructor
  · intro hge
    have e1 := arms_put n s l (logAt n + u) f (bodyS 3 gen u tx) hb1 (by rw [body_len]; omega)
    rw [body_len] at e1
    unfold DM.app
    rw [e1, if_pos rfl]
    show (DM.arms n _ _ _).putRow _ _ = _
    rw [arms_put n _ _ _ _ _ he1 (by simp [endS]; omega)]
    show (DM.arms n _ (s + pn tx + 1 + 1 + 1) (l - (pn tx + 1) - (1 + 1)), 0) = _
    rw [show l - (pn tx + 1) - (1 + 1) = l - (pn tx + 3) by omega]
    rfl
  · intro hlt
    by_cases hfirst : l ≤ pn tx
    · have e1 := arms_fall n s l (logAt n + u) f (bodyS 3 gen u tx) hb1 (by rw [body_len]; exact hfirst)
      have e2 : (DM.arms n f s l).app n gen u tx = (DM.fell n f (waitsOf (logAt n + u) ((bodyS 3 gen u tx).take l)) (s + l), 3) := by
        unfold DM.app
        rw [e1, if_neg (by simp)]
      rw [e2]
      refine ⟨rfl, by show (waitsOf _ _).length ≤ _; rw [waitsOf_len, List.length_take, body_len]; omega, fun keep => ⟨_, _, gen, st, txs, u, fell_crash n _ f _ keep, h.cut_app h256 hf (hbody _ _), .inl ⟨rfl, rfl⟩⟩⟩
    · have e1 := arms_put n s l (logAt n + u) f (bodyS 3 gen u tx) hb1 (by rw [body_len]; omega)
      rw [body_len] at e1
      have e2 := arms_fall n (s + pn tx + 1) (l - (pn tx + 1)) (logAt n + (u + pn tx)) (putF f (logAt n + u) (bodyS 3 gen u tx)) (endS gen (u + pn tx) (pn tx)) he1 (by simp [endS]; omega)
      have e3 : (DM.arms n f s l).app n gen u tx = (DM.fell n (putF f (logAt n + u) (bodyS 3 gen u tx)) (waitsOf (logAt n + (u + pn tx)) ((endS gen (u + pn tx) (pn tx)).take (l - (pn tx + 1)))) (s + pn tx + 1 + (l - (pn tx + 1))), 3) := by
        unfold DM.app
        rw [e1, if_pos rfl]
        exact e2
      have hold : JShow (putF f (logAt n + u) (bodyS 3 gen u tx)) n gen st txs u := h.cut_app h256 hf (fun j => by
        have := hbody (fun _ => true) (pn tx) j
        rw [List.take_of_length_le (by rw [body_len]; exact Nat.le_refl _), settled_waits] at this
        exact this)
      rw [e3]
      refine ⟨rfl, by show (waitsOf _ _).length ≤ _; rw [waitsOf_len, List.length_take]; simp [endS]; omega, fun keep => ?_⟩
      rcases take_one_of (sealRes 4 gen (u + pn tx : Nat) (numB (pn tx))) (l - (pn tx + 1)) (by omega) with ⟨hm, ht⟩ | ⟨hm, ht⟩
      · refine ⟨_, _, gen, st, txs, u, fell_crash n _ _ _ keep, ?_, .inl ⟨rfl, rfl⟩⟩
        unfold endS
        rw [ht]
        exact hold
      · by_cases hkp : keptOf keep 0 = true
        · refine ⟨_, _, gen, st, txs ++ [tx], u + pn tx + 1, fell_crash n _ _ _ keep, ?_, .inr ⟨rfl, rfl⟩⟩
          have := (h.app hne h256 hf).show
          unfold endS
          rw [ht]
          unfold appF endS at this
          simp only [waitsOf, settled, hkp, if_true]
          exact this
        · refine ⟨_, _, gen, st, txs, u, fell_crash n _ _ _ keep, ?_, .inl ⟨rfl, rfl⟩⟩
          unfold endS
          rw [ht]
          simp only [waitsOf, settled]
          rw [if_neg hkp]
          exact hold
theorem arms_ckpt {n s l gen u : Nat} {f : Int → Sec} {st st' : List Nat} {txs : List (List Nat)} (h : JFine f n gen st txs u) (h256 : ∀ b ∈ st', b < 256) (hl : st'.length ≤ 5000) (hf : pn st' ≤ areaOf n) (hg : gen + 1 ≤ 4611686018427387000) :
    (pn st' + 3 ≤ l → (DM.arms n f s l).ckpt n (gen + 1) st' = (DM.arms n (ckptF n f (gen + 1) st') (s + pn st' + 3) (l - (pn st' + 3)), 0)) ∧
    (l < pn st' + 3 → ((DM.arms n f s l).ckpt n (gen + 1) st').2 = 3 ∧ Cuts ((DM.arms n f s l).ckpt n (gen + 1) st').1 n st txs st' []) := by
  have hin := area_in (g := gen + 1) h.ok.n8
  have h8 := h.ok.n8
  have hpn : pn st' ≤ 48 := by unfold pn; omega
  have hb1 : stateAt n (gen + 1) + (bodyS 2 (gen + 1) 0 st').length ≤ n := by rw [body_len]; omega
  have he1 : (gen + 1) % 2 + (topS (gen + 1) st').length ≤ n := by simp [topS]; omega
  have hbody : ∀ (kept : Nat → Bool) (m : Nat), JShow (settled kept 0 (waitsOf (stateAt n (gen + 1)) ((bodyS 2 (gen + 1) 0 st').take m)) f) n gen st txs u := fun kept m => h.cut_ckpt (fun j hj => by
    rcases settled_some kept ((bodyS 2 (gen + 1) 0 st').take m) (stateAt n (gen + 1)) 0 f j with e | ⟨k, x, e1, e2, e3⟩
    · exact e
    · rw [List.getElem?_take] at e1
      split at e1
      · have hk : k < pn st' := by
          have := (List.getElem?_eq_some_iff.1 e1).1
          rwa [body_len] at this
        omega
      · cases e1)
  constructor
  · intro hge
    have e1 := arms_put n s l (stateAt n (gen + 1)) f (bodyS 2 (gen + 1) 0 st') hb1 (by rw [body_len]; omega)
    rw [body_len] at e1
    unfold DM.ckpt
    rw [e1, if_pos rfl]
    show (DM.arms n _ _ _).putRow _ _ = _
    rw [arms_put n _ _ _ _ _ he1 (by simp [topS]; omega)]
    show (DM.arms n _ (s + pn st' + 1 + 1 + 1) (l - (pn st' + 1) - (1 + 1)), 0) = _
    rw [show l - (pn st' + 1) - (1 + 1) = l - (pn st' + 3) by omega]
    rfl
  · intro hlt
    by_cases hfirst : l ≤ pn st'
    · have e1 := arms_fall n s l (stateAt n (gen + 1)) f (bodyS 2 (gen + 1) 0 st') hb1 (by rw [body_len]; exact hfirst)
      have e2 : (DM.arms n f s l).ckpt n (gen + 1) st' = (DM.fell n f (waitsOf (stateAt n (gen + 1)) ((bodyS 2 (gen + 1) 0 st').take l)) (s + l), 3) := by
        unfold DM.ckpt
        rw [e1, if_neg (by simp)]
      rw [e2]
      exact ⟨rfl, by show (waitsOf _ _).length ≤ _; rw [waitsOf_len, List.length_take, body_len]; omega, fun keep => ⟨_, _, gen, st, txs, u, fell_crash n _ f _ keep, hbody _ _, .inl ⟨rfl, rfl⟩⟩⟩
    · have e1 := arms_put n s l (stateAt n (gen + 1)) f (bodyS 2 (gen + 1) 0 st') hb1 (by rw [body_len]; omega)
      rw [body_len] at e1
      have e2 := arms_fall n (s + pn st' + 1) (l - (pn st' + 1)) ((gen + 1) % 2) (putF f (stateAt n (gen + 1)) (bodyS 2 (gen + 1) 0 st')) (topS (gen + 1) st') he1 (by simp [topS]; omega)
      have e3 : (DM.arms n f s l).ckpt n (gen + 1) st' = (DM.fell n (putF f (stateAt n (gen + 1)) (bodyS 2 (gen + 1) 0 st')) (waitsOf ((gen + 1) % 2) ((topS (gen + 1) st').take (l - (pn st' + 1)))) (s + pn st' + 1 + (l - (pn st' + 1))), 3) := by
        unfold DM.ckpt
        rw [e1, if_pos rfl]
        exact e2
      have hold : JShow (putF f (stateAt n (gen + 1)) (bodyS 2 (gen + 1) 0 st')) n gen st txs u := by
        have := hbody (fun _ => true) (pn st')
        rw [List.take_of_length_le (by rw [body_len]; exact Nat.le_refl _), settled_waits] at this
        exact this
      rw [e3]
      refine ⟨rfl, by show (waitsOf _ _).length ≤ _; rw [waitsOf_len, List.length_take]; simp [topS]; omega, fun keep => ?_⟩
      rcases take_one_of (sealRes 1 (gen + 1 : Nat) 0 (numB st'.length)) (l - (pn st' + 1)) (by omega) with ⟨hm, ht⟩ | ⟨hm, ht⟩
      · refine ⟨_, _, gen, st, txs, u, fell_crash n _ _ _ keep, ?_, .inl ⟨rfl, rfl⟩⟩
        unfold topS
        rw [ht]
        exact hold
      · by_cases hkp : keptOf keep 0 = true
        · refine ⟨_, _, gen + 1, st', [], 0, fell_crash n _ _ _ keep, ?_, .inr ⟨rfl, rfl⟩⟩
          have := (h.ckpt hf h256 hl hg).show
          unfold topS
          rw [ht]
          unfold ckptF topS at this
          simp only [waitsOf, settled, hkp, if_true]
          exact this
        · refine ⟨_, _, gen, st, txs, u, fell_crash n _ _ _ keep, ?_, .inl ⟨rfl, rfl⟩⟩
          unfold topS
          rw [ht]
          simp only [waitsOf, settled]
          rw [if_neg hkp]
          exact hold
theorem arms_cuts {n s l gen u : Nat} {f : Int → Sec} {st st' : List Nat} {txs txs' : List (List Nat)} (h : JFine f n gen st txs u) : Cuts (DM.arms n f s l) n st txs st' txs' :=
  ⟨by simp [DM.arms], fun keep => ⟨f, s, gen, st, txs, u, arms_crash n s l f keep, h.show, .inl ⟨rfl, rfl⟩⟩⟩
theorem arms_far {n s l m : Nat} {f : Int → Sec} (h1 : s + m < 4611686018427387904) (h2 : l ≤ 9223372036854775807) (h3 : m ≤ 1000000) : Far (DM.arms n f s l) m := ⟨h1, h2, by simpa [DM.arms] using h3⟩
/-! ### the calls -/
section
variable {w0 w : World} {g gj n gen u : Nat} {d : DM} {st : List Nat} {txs : List (List Nat)} {X : List Nat}
set_option maxHeartbeats 1000000 in
theorem append_fail {used : Nat} {vs vt : Value} (h : Holds w0 w g d X) (hJ : Blk w gj 67 (jcells n g gen vs vt used false)) (hgj : gj ∈ X) (hgj0 : w0.heap.size ≤ gj) (hn : n ≤ 4096)
    (hgen : gen ≤ 4611686018427387904) (hused : used ≤ logOf n) (A : Option Addr) (c : Nat) (tx : List Nat) (hst : Bytes w w.heap.size A tx.length tx) (hl : tx.length ≤ 5000) (hlc : tx.length ≤ c) (hcm : c ≤ 9223372036854775807) (hne : tx ≠ []) (hfit : pn tx + 1 ≤ logOf n - used)
    (hT : Tab w) (hw0 : 0 < w0.heap.size) (hAx : ∀ k ∈ blkOf A, k ∈ X) (hf : Far d (pn tx + 3)) (hok : (d.app n gen used tx).2 ≠ 0)
    (nt : Nat) (us : List Value) (hus : w.ownsRow w0.heap.size 34 1 vt nt us) (hnt : nt ≤ 100000) (hvt : ∀ k ∈ rowOf vt, k ∈ X) :
    Calls Tryd.prog 12 #[.pointer (some ⟨gj, 0, none⟩), .slice A tx.length c] w fun e w' => e = .returned (errV (d.app n gen used tx).2) ∧ Holds w0 w' g (d.app n gen used tx).1 X ∧ (∀ k ∈ X, k ≠ gj → w'.heap[k]? = w.heap[k]?) ∧ w.heap.size ≤ w'.heap.size := by
  have hlog : logOf n ≤ 4096 := by unfold logOf; omega
  have hpos : 0 < tx.length := List.length_pos_iff.2 hne
  have hd0 : ((tx.length : Int) == 0) = false := by simp; omega
  have hd0' : (tx.length == 0) = false := by simp; omega
  have hnd : needOf tx.length = pn tx + 1 := by unfold needOf; rw [if_neg (by omega)]; rfl
  have hd1 : decide (((logOf n - used : Nat) : Int) < (needOf tx.length : Int)) = false := by simp; omega
  have hd1' : decide (logOf n - used < needOf tx.length) = false := by simp; omega
  have hXl := h.lt
  have hposw : 0 < w.heap.size := Nat.lt_of_lt_of_le hw0 h.size
  have HADD := Lib.hid (fun (w1 : World) (b1 : Below w.heap.size w w1) => add_bad (h.below b1) (hJ.below b1 hJ.lt) hgj hgj0 hn hgen (by omega) A c tx ((hst.below b1).more b1.size) hl hlc hcm (tab_below hT b1 hposw) hw0 hAx hf hok nt us (row_of hus fun x hx => b1.block x (row_under hus x hx)) hnt hvt)
  have HJ := Lib.hid hJ
  have HXl := Lib.hid hXl
  clear h hJ hst hT hok hus hXl
  go_enter Tryd.func12, Tryd.ntmps12
  go_wp2_with fail
  refine (ready_good HJ.out).mono ?_
  rintro e w' ⟨rfl, rfl⟩
  go_wp2_with fail
  refine (need_any tx.length w (by omega)).mono ?_
  rintro e w' ⟨rfl, rfl⟩
  go_wp2_with fail
  refine (jroom_any HJ.out hn hused).mono ?_
  rintro e w1 ⟨rfl, b1⟩
  go_wp2_with fail
  refine (HADD.out w1 b1).mono ?_
  rintro e w' ⟨rfl, r1, r2, r3⟩
  go_wp2
  go_ret
  exact ⟨rfl, r1, fun k hk hne => (r2 k hk hne).trans (b1.block k (HXl.out k hk)), Nat.le_trans b1.size r3⟩
set_option maxRecDepth 100000 in
set_option maxHeartbeats 2000000 in
theorem checkpoint_fail {vs vt : Value} (h : Holds w0 w g d X) (hJ : Blk w gj 67 (jcells n g gen vs vt u false)) (hgj : gj ∈ X) (hgj0 : w0.heap.size ≤ gj) (hn : n ≤ 4096) (hgen : gen + 1 ≤ 4611686018427387904)
    (A : Option Addr) (c : Nat) (st : List Nat) (hst : Bytes w w.heap.size A st.length st) (hl : st.length ≤ 5000) (hlc : st.length ≤ c) (hcm : c ≤ 9223372036854775807) (hfit : pn st ≤ areaOf n)
    (hT : Tab w) (hw0 : 0 < w0.heap.size) (hAx : 0 < st.length → ∀ k ∈ blkOf A, k ∈ X) (hf : Far d (pn st + 3)) (hok : (d.ckpt n (gen + 1) st).2 ≠ 0) :
    Calls Tryd.prog 13 #[.pointer (some ⟨gj, 0, none⟩), .slice A st.length c] w fun e w' => e = .returned (errV (d.ckpt n (gen + 1) st).2) ∧ Holds w0 w' g (d.ckpt n (gen + 1) st).1 X ∧ (∀ k ∈ X, k ≠ gj → w'.heap[k]? = w.heap[k]?) ∧ w.heap.size ≤ w'.heap.size := by
  have q0 : w.cell? ⟨gj, 0, none⟩ = some (.int .i64 (areaOf n)) := hJ.cell 0
  have q3 : ∀ nq, (w.drewN nq).cell? ⟨gj, 3, none⟩ = some (.int .i64 gen) := fun nq => hJ.cell 3
  have HB := Lib.hid (fun nq => begin_bad (h.below (below_drewN (Below.refl w.heap.size w) nq)) (hJ.below (below_drewN (Below.refl w.heap.size w) nq) hJ.lt) hgj hgj0 hn (gen + 1) hgen A c st (hst.drewN nq) hl hlc hcm (tab_below hT (below_drewN (Below.refl w.heap.size w) nq) (Nat.lt_of_lt_of_le hw0 h.size)) hw0 hAx hf hok)
  have HJ := Lib.hid hJ
  clear h hJ hst hT hok
  have hpe : partsOf st.length = pn st := rfl
  have hd1 : decide ((areaOf n : Int) < (partsOf st.length : Int)) = false := by simp; omega
  have hd1' : decide (areaOf n < partsOf st.length) = false := by simp; omega
  have hge : ((gen + 1 : Nat) : Int) = (gen : Int) + 1 := by omega
  rw [hge] at HB
  clear hpe hge
  go_enter Tryd.func13, Tryd.ntmps13
  go_wp2_with fail
  refine (ready_good HJ.out).mono ?_
  rintro e w' ⟨rfl, rfl⟩
  go_wp2
  go_quiet ((go_at_call 29; exact Calls.quiet_of_same ((jparts_any st.length _ (by omega)).mono fun e w' h => ⟨h.1, h.2.symm⟩)))
  go_wp2_with fail
  refine (HB.out _).mono ?_
  rintro e w1 ⟨rfl, r1, r2, r3⟩
  go_wp2
  go_ret
  exact ⟨rfl, r1, r2, r3⟩
/-- what an act has come to: done, refused, or cut -/
def Out (w0 w' : World) (g gj n : Nat) (f : Int → Sec) (s l gen : Nat) (st : List Nat) (txs : List (List Nat)) (u : Nat) (st' : List Nat) (txs' : List (List Nat)) (X : List Nat) (m : Nat) : Prop :=
  (m = 0 ∧ ∃ f' s' l' gen' u', JAt w0 w' g gj (DM.arms n f' s' l') n gen' st' txs' u' X ∧ JFine f' n gen' st' txs' u' ∧ s' ≤ s + 60 ∧ l' ≤ l ∧ gen' ≤ gen + 1) ∨
  ((m = 2 ∨ m = 4) ∧ JAt w0 w' g gj (DM.arms n f s l) n gen st txs u X) ∨
  (m = 3 ∧ ∃ d', Holds w0 w' g d' X ∧ d'.n = n ∧ Cuts d' n st txs st' txs')
theorem JAt.append_out {f : Int → Sec} {s l : Nat} (h : JAt w0 w g gj (DM.arms n f s l) n gen st txs u X) (hfi : JFine f n gen st txs u) (A : Option Addr) (c : Nat) (tx : List Nat) (hst : Bytes w w.heap.size A tx.length tx) (hl : tx.length ≤ 5000) (hlc : tx.length ≤ c) (hcm : c ≤ 9223372036854775807)
    (hT : Tab w) (hw0 : 0 < w0.heap.size) (hAx : 0 < tx.length → ∀ k ∈ blkOf A, k ∈ X ∨ k < w0.heap.size) (hs : s ≤ 4000000) (hl2 : l ≤ 9223372036854775807) (hnt : txs.length ≤ 100000) :
    Calls Tryd.prog 12 #[.pointer (some ⟨gj, 0, none⟩), .slice A tx.length c] w fun e w' => ∃ m, e = .returned (errV m) ∧ (∀ k ∈ X, w'.heap[k]? = w.heap[k]?) ∧ w.heap.size ≤ w'.heap.size ∧ Out w0 w' g gj n f s l gen st txs u st (txs ++ [tx]) X m := by
  have hpn : pn tx ≤ 48 := by unfold pn; omega
  have hgl := hfi.ok.gle
  have hXl := h.holds.lt
  by_cases h0 : tx = []
  · subst h0
    exact (h.empty A c).mono fun e w' ⟨e1, e2⟩ => by subst e2; exact ⟨2, e1, fun _ _ => rfl, Nat.le_refl _, .inr (.inl ⟨.inl rfl, h⟩)⟩
  · have hpos : 0 < tx.length := List.length_pos_iff.2 h0
    by_cases hfull : logOf n - u < pnN tx.length + 1
    · exact (h.full hfi.ok.nle hfi.ok.ule A tx.length c hpos (by omega) hfull).mono fun e w' ⟨e1, b⟩ => ⟨4, e1, fun k hk => b.block k (hXl k hk), b.size, .inr (.inl ⟨.inr rfl, h.below b⟩)⟩
    · have hpe : pn tx = pnN tx.length := rfl
      have hfit : u + pn tx + 1 ≤ logOf n := by omega
      obtain ⟨a1, a2⟩ := arms_app (s := s) (l := l) hfi h0 hst.2 hl hfit
      have hfar : Far (DM.arms n f s l) (pn tx + 3) := arms_far (by omega) hl2 (by omega)
      by_cases hl3 : pn tx + 3 ≤ l
      · have e := a1 hl3
        refine (h.append hfi.ok.nle (by omega) hfi.ok.ule A c tx hst hl hlc hcm h0 (by omega) hT hw0 (hAx hpos) hfar (by rw [e]) hnt).mono ?_
        rw [e]
        rintro e w' ⟨rfl, j, k, s'⟩
        exact ⟨0, rfl, k, s', .inl ⟨rfl, _, _, _, gen, _, j, hfi.app h0 hst.2 hfit, by omega, by omega, by omega⟩⟩
      · obtain ⟨e1, e2⟩ := a2 (by omega)
        obtain ⟨A0, c0, vt, us, h1, h2, h3, h4, h5, h6⟩ := h
        have hX : Holds w0 w g (DM.arms n f s l) (blkOf A ++ (txBlks vt us ++ (blkOf A0 ++ gj :: X))) := h1.add_old (fun k hk => (hAx hpos k hk).imp (fun h => by simp [h]) id)
        refine (append_fail hX h2 (by simp) h5 hfi.ok.nle (by omega) hfi.ok.ule A c tx hst hl hlc hcm h0 (by omega) hT hw0 (fun k hk => by simp [hk]) hfar (by rw [e1]; omega) txs.length us h4.1 hnt (fun k hk => by simp [txBlks, hk])).mono ?_
        rintro e w' ⟨rfl, r1, r2, r3⟩
        exact ⟨3, by rw [e1], fun k hk => r2 k (by simp [hk]) (h6 k hk).1, r3, .inr (.inr ⟨rfl, _, r1.mono (fun k hk => by simp [hk]), e2.n_, e2⟩)⟩
theorem JAt.ckpt_out {st' : List Nat} {f : Int → Sec} {s l : Nat} (h : JAt w0 w g gj (DM.arms n f s l) n gen st txs u X) (hfi : JFine f n gen st txs u) (A : Option Addr) (c : Nat) (hst : Bytes w w.heap.size A st'.length st') (hl : st'.length ≤ 5000) (hlc : st'.length ≤ c) (hcm : c ≤ 9223372036854775807)
    (hT : Tab w) (hw0 : 0 < w0.heap.size) (hAx : 0 < st'.length → ∀ k ∈ blkOf A, k ∈ X ∨ k < w0.heap.size) (hs : s ≤ 4000000) (hl2 : l ≤ 9223372036854775807) (hgen : gen ≤ 4000000) :
    Calls Tryd.prog 13 #[.pointer (some ⟨gj, 0, none⟩), .slice A st'.length c] w fun e w' => ∃ m, e = .returned (errV m) ∧ (∀ k ∈ X, w'.heap[k]? = w.heap[k]?) ∧ w.heap.size ≤ w'.heap.size ∧ Out w0 w' g gj n f s l gen st txs u st' [] X m := by
  have hpn : pn st' ≤ 48 := by unfold pn; omega
  have hXl := h.holds.lt
  by_cases hfull : areaOf n < pnN st'.length
  · exact (h.cfull A st'.length c (by omega) hfull).mono fun e w' ⟨e1, b⟩ => ⟨4, e1, fun k hk => b.block k (hXl k hk), b.size, .inr (.inl ⟨.inr rfl, h.below b⟩)⟩
  · have hpe : pn st' = pnN st'.length := rfl
    have hfit : pn st' ≤ areaOf n := by omega
    obtain ⟨a1, a2⟩ := arms_ckpt (s := s) (l := l) hfi hst.2 hl hfit (by omega)
    have hfar : Far (DM.arms n f s l) (pn st' + 3) := arms_far (by omega) hl2 (by omega)
    by_cases hl3 : pn st' + 3 ≤ l
    · have e := a1 hl3
      refine (h.checkpoint hfi.ok.nle (by omega) A c hst hl hlc hcm hfit hT hw0 hAx hfar (by rw [e])).mono ?_
      rw [e]
      rintro e w' ⟨rfl, j, k, s'⟩
      exact ⟨0, rfl, k, s', .inl ⟨rfl, _, _, _, gen + 1, _, j, hfi.ckpt hfit hst.2 hl (by omega), by omega, by omega, by omega⟩⟩
    · obtain ⟨e1, e2⟩ := a2 (by omega)
      obtain ⟨A0, c0, vt, us, h1, h2, h3, h4, h5, h6⟩ := h
      obtain ⟨Y, hY, hX⟩ : ∃ Y, (0 < st'.length → ∀ k ∈ blkOf A, k ∈ Y) ∧ Holds w0 w g (DM.arms n f s l) (Y ++ (txBlks vt us ++ (blkOf A0 ++ gj :: X))) := by
        rcases Nat.eq_zero_or_pos st'.length with h0 | h0
        · exact ⟨[], fun h => absurd h (by omega), h1⟩
        · exact ⟨blkOf A, fun _ _ h => h, h1.add_old (fun k hk => (hAx h0 k hk).imp (fun h => by simp [h]) id)⟩
      refine (checkpoint_fail hX h2 (by simp) h5 hfi.ok.nle (by omega) A c st' hst hl hlc hcm hfit hT hw0 (fun h0 k hk => by simp [hY h0 k hk]) hfar (by rw [e1]; omega)).mono ?_
      rintro e w' ⟨rfl, r1, r2, r3⟩
      exact ⟨3, by rw [e1], fun k hk => r2 k (by simp [hk]) (h6 k hk).1, r3, .inr (.inr ⟨rfl, _, r1.mono (fun k hk => by simp [hk]), e2.n_, e2⟩)⟩
end
end Go.Proofs.YtpklcmocjimcpaaDoor
