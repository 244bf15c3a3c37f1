/-
  What stands on a journal's disk whose power went in the middle of a call, whichever writes were kept: what stood ahead of the call, or behind it. Conditions: small numbers.
-/
import Derived.Test.YtpklcmocjimcpaaDoorZj
namespace Go.Proofs.YtpklcmocjimcpaaDoor
open Go.RowKit
set_option maxRecDepth 100000
set_option linter.unusedSimpArgs false
set_option linter.unusedVariables false
/-- a disk that is armed, on which nothing waits -/
def DM.arms (n : Nat) (f : Int → Sec) (s l : Nat) : DM := ⟨n, f, [], s, true, l, false⟩
/-- its power went while these writes waited -/
def DM.fell (n : Nat) (f : Int → Sec) (wt : List (Int × Sec)) (s : Nat) : DM := ⟨n, f, wt, s, true, 0, true⟩
theorem putRow_arm : ∀ (ss : List Sec) (n i s l : Nat) (f : Int → Sec) (wt : List (Int × Sec)), i + ss.length ≤ n →
    (ss.length + 1 ≤ l → (⟨n, f, wt, s, true, l, false⟩ : DM).putRow i ss = (⟨n, settled (fun _ => true) 0 (wt ++ waitsOf i ss) f, [], s + ss.length + 1, true, l - (ss.length + 1), false⟩, 0)) ∧
    (l ≤ ss.length → (⟨n, f, wt, s, true, l, false⟩ : DM).putRow i ss = (⟨n, f, wt ++ waitsOf i (ss.take l), s + l, true, 0, true⟩, 3))
  | [], n, i, s, l, f, wt, h => by
    constructor
    · intro hl
      have h0 : ¬ l = 0 := by simp at hl; omega
      simp [DM.putRow, DM.flush, DM.stepErr, DM.off, DM.step, DM.settle, waitsOf, h0]
    · intro hl
      obtain rfl : l = 0 := by simp at hl; exact hl
      simp [DM.putRow, DM.flush, DM.stepErr, DM.off, DM.step, waitsOf]
  | x :: ss, n, i, s, l, f, wt, h => by
    simp only [List.length_cons] at h
    have h1 : (⟨n, f, wt, s, true, l, false⟩ : DM).has (i : Int) = true := by simp [DM.has]; omega
    by_cases hl0 : l = 0
    · subst hl0
      refine ⟨fun hl => absurd hl (by simp), fun _ => ?_⟩
      have h2 : (⟨n, f, wt, s, true, 0, false⟩ : DM).writeErr (i : Int) = 3 := by
        unfold DM.writeErr
        rw [h1]
        simp [DM.off]
      have h3 : (⟨n, f, wt, s, true, 0, false⟩ : DM).write (i : Int) x = ⟨n, f, wt, s, true, 0, true⟩ := by
        unfold DM.write
        rw [h1]
        simp [DM.off, DM.step]
      rw [DM.putRow, h2, if_neg (by omega), h3]
      simp [waitsOf]
    · have h2 : (⟨n, f, wt, s, true, l, false⟩ : DM).writeErr (i : Int) = 0 := by
        unfold DM.writeErr
        rw [h1]
        simp [DM.off, hl0]
      have h3 : (⟨n, f, wt, s, true, l, false⟩ : DM).write (i : Int) x = ⟨n, f, wt ++ [((i : Int), x)], s + 1, true, l - 1, false⟩ := by
        unfold DM.write
        rw [h1]
        simp [DM.off, DM.step, hl0]
      obtain ⟨a, b⟩ := putRow_arm ss n (i + 1) (s + 1) (l - 1) f (wt ++ [((i : Int), x)]) (by omega)
      rw [DM.putRow, h2, if_pos rfl, h3]
      constructor
      · intro hl
        simp only [List.length_cons] at hl
        rw [a (by omega)]
        simp only [waitsOf, List.append_assoc, List.singleton_append, List.length_cons]
        rw [show s + 1 + ss.length + 1 = s + (ss.length + 1) + 1 by omega, show l - 1 - (ss.length + 1) = l - (ss.length + 1 + 1) by omega]
      · intro hl
        simp only [List.length_cons] at hl
        obtain ⟨m, rfl⟩ : ∃ m, l = m + 1 := ⟨l - 1, by omega⟩
        rw [Nat.add_sub_cancel] at b ⊢
        rw [b (by omega)]
        simp only [waitsOf, List.append_assoc, List.singleton_append, List.take_succ_cons]
        rw [show s + 1 + m = s + (m + 1) by omega]
theorem arms_put (n s l i : Nat) (f : Int → Sec) (ss : List Sec) (h : i + ss.length ≤ n) (hl : ss.length + 1 ≤ l) : (DM.arms n f s l).putRow i ss = (DM.arms n (putF f i ss) (s + ss.length + 1) (l - (ss.length + 1)), 0) := by
  unfold DM.arms
  rw [(putRow_arm ss n i s l f [] h).1 hl, List.nil_append, settled_waits]
theorem arms_fall (n s l i : Nat) (f : Int → Sec) (ss : List Sec) (h : i + ss.length ≤ n) (hl : l ≤ ss.length) : (DM.arms n f s l).putRow i ss = (DM.fell n f (waitsOf i (ss.take l)) (s + l), 3) := by
  unfold DM.arms
  rw [(putRow_arm ss n i s l f [] h).2 hl, List.nil_append]
  rfl
theorem idle_arm (n s l : Nat) (f : Int → Sec) (k : Nat) : (DM.idle n f s l).arm (k : Int) = DM.arms n f s k := by
  unfold DM.arm
  rw [if_neg (by omega)]
  simp [DM.idle, DM.arms]
theorem fell_crash (n s : Nat) (f : Int → Sec) (wt : List (Int × Sec)) (keep : List Bool) : (DM.fell n f wt s).crash keep = DM.idle n (settled (keptOf keep) 0 wt f) s 0 := rfl
theorem arms_crash (n s l : Nat) (f : Int → Sec) (keep : List Bool) : (DM.arms n f s l).crash keep = DM.idle n f s 0 := rfl
/-- whichever are kept, each sector is as it was, or as it was written -/
theorem settled_some (kept : Nat → Bool) : ∀ (ss : List Sec) (i m : Nat) (f : Int → Sec) (j : Int), settled kept m (waitsOf i ss) f j = f j ∨ ∃ k s, ss[k]? = some s ∧ j = ((i + k : Nat) : Int) ∧ settled kept m (waitsOf i ss) f j = s
  | [], i, m, f, j => .inl rfl
  | x :: ss, i, m, f, j => by
    show settled kept (m + 1) (waitsOf (i + 1) ss) (if kept m then upd f ((i : Int), x) else f) j = _ ∨ _
    rcases settled_some kept ss (i + 1) (m + 1) (if kept m then upd f ((i : Int), x) else f) j with h | ⟨k, s, h1, h2, h3⟩
    · rw [h]
      by_cases hk : kept m = true
      · rw [if_pos hk]
        by_cases hj : j = (i : Int)
        · right
          refine ⟨0, x, rfl, by rw [hj]; rfl, ?_⟩
          show settled kept (m + 1) (waitsOf (i + 1) ss) (if kept m then upd f ((i : Int), x) else f) j = _
          rw [h, if_pos hk]
          unfold upd
          exact if_pos hj
        · left
          unfold upd
          exact if_neg hj
      · left
        rw [if_neg hk]
    · exact .inr ⟨k + 1, s, by simpa using h1, by rw [h2]; omega, h3⟩
/-! ### what Open reads there -/
structure JShow (f : Int → Sec) (n gen : Nat) (st : List Nat) (txs : List (List Nat)) (u : Nat) : Prop where
  n8 : 8 ≤ n
  nle : n ≤ 4096
  fit : pn st ≤ areaOf n
  gle : gen ≤ 4611686018427387000
  s256 : ∀ b ∈ st, b < 256
  slen : st.length ≤ 5000
  top : topOf (f ((gen % 2 : Nat) : Int)) = some ((gen : Int), (st.length : Int))
  alt : ∀ g z, topOf (f (((gen + 1) % 2 : Nat) : Int)) = some (g, z) → g < gen
  parts : ∀ k, k < pn st → f ((stateAt n gen + k : Nat) : Int) = sealRes 2 gen (k : Int) (prow st k)
  log : LogF f n gen 0 txs u
  ule : u ≤ logOf n
  ends : ∀ p, u ≤ p → p < logOf n → isOf (f ((logAt n + p : Nat) : Int)).l 4 gen (p : Int) = false
theorem stand_none {g : Int} {p : Nat} : ∀ (l : List Sec) (k : Nat) (tx : List Nat), (∀ i s, l[i]? = some s → isOf s.l 4 g ((p : Int) + ((k + i : Nat) : Int)) = false) → standF g p l k tx = none
  | [], k, tx, h => rfl
  | s :: l, k, tx, h => by
    have h0 := h 0 s rfl
    have hn := stand_none l (k + 1) (tx ++ tD s.l) (fun i s' hi => by
      have := h (i + 1) s' (by simpa using hi)
      rwa [show k + (i + 1) = k + 1 + i by omega] at this)
    unfold standF
    split
    · exact hn
    · rw [if_neg]
      rintro ⟨_, he⟩
      unfold endOf at he
      rw [show (p : Int) + ((k + 0 : Nat) : Int) = (p : Int) + (k : Int) by omega] at h0
      rw [h0] at he
      cases he
theorem jlog_is {f : Int → Sec} {n gen s l : Nat} (h8 : 8 ≤ n) (hn : n ≤ 4096) (hg : gen ≤ 4611686018427387000) {u : Nat} (hu : u ≤ logOf n) (hend : ∀ p, u ≤ p → p < logOf n → isOf (f ((logAt n + p : Nat) : Int)).l 4 gen (p : Int) = false) : ∀ (txs : List (List Nat)) (v : Nat), LogF f n gen v txs u → LogIs gen (readL (DM.idle n f s l) (logAt n) (logOf n)) v txs u
  | [], v, h => by
    obtain rfl : v = u := h
    refine ⟨rfl, stand_none _ _ _ (fun i x hx => ?_)⟩
    rw [List.getElem?_drop] at hx
    have hi : v + i < logOf n := by
      rcases Nat.lt_or_ge (v + i) (logOf n) with h' | h'
      · exact h'
      · rw [List.getElem?_eq_none (by rw [readL_len]; omega)] at hx; cases hx
    rw [readL_at (by rw [log_in h8]; omega) hi] at hx
    injection hx with hx
    subst hx
    have := hend (v + i) (by omega) hi
    rw [show (v : Int) + ((0 + i : Nat) : Int) = ((v + i : Nat) : Int) by omega]
    exact this
  | t :: rest, v, h => by
    have hle := LogF.le rest _ u h.2.2.2.2
    have hlo : logOf n ≤ 4096 := by unfold logOf; omega
    have hr : ∀ p, p < u → (readL (DM.idle n f s l) (logAt n) (logOf n))[p]? = some (f ((logAt n + p : Nat) : Int)) := fun p hp => readL_at (by rw [log_in h8]; omega) (by omega)
    refine ⟨pn t + 1, ?_, ?_⟩
    · have := stand_body (g := gen) (v := v) (t := t) hg (by omega) h.2.1 h.1 (readL (DM.idle n f s l) (logAt n) (logOf n)) (fun k hk => by rw [hr (v + k) (by omega), h.2.2.1 k hk]) (by rw [hr (v + pn t) (by omega), h.2.2.2.1]) (pn t) 0 (by omega)
      simpa using this
    · rw [show v + (pn t + 1) = v + pn t + 1 by omega]
      exact jlog_is h8 hn hg hu hend rest _ h.2.2.2.2
theorem JShow.shows {f : Int → Sec} {n gen u s l : Nat} {st : List Nat} {txs : List (List Nat)} (h : JShow f n gen st txs u) : Shows (DM.idle n f s l) n gen st txs u := by
  have hn8 := h.n8
  have hfit := h.fit
  refine ⟨h.fit, ?_, ?_, jlog_is h.n8 h.nle h.gle h.ule h.ends txs 0 h.log⟩
  · have e : readL (DM.idle n f s l) 0 2 = [f 0, f 1] := by
      apply List.ext_getElem?
      intro i
      rcases Nat.lt_or_ge i 2 with hi | hi
      · rw [readL_at (by omega) hi]
        have : i = 0 ∨ i = 1 := by omega
        rcases this with rfl | rfl <;> rfl
      · rw [List.getElem?_eq_none (by rw [readL_len]; omega), List.getElem?_eq_none (by simp; omega)]
    rw [e]
    apply newest_two
    have h1 := h.top
    have h2 := h.alt
    have : gen % 2 = 0 ∨ gen % 2 = 1 := by omega
    rcases this with hm | hm
    · rw [hm] at h1
      rw [show (gen + 1) % 2 = 1 by omega] at h2
      exact .inl ⟨hm, h1, h2⟩
    · rw [hm] at h1
      rw [show (gen + 1) % 2 = 0 by omega] at h2
      exact .inr ⟨hm, h1, h2⟩
  · intro k x hk hx
    rw [readL_at (by have := area_in (g := gen) hn8; omega) (by omega)] at hx
    injection hx with hx
    subst hx
    rw [h.parts k hk]
    have hle := area_small h.nle
    have hg := h.gle
    have hb : isBoxB 2 (gen : Int) (k : Int) = true := by simp [isBoxB]; omega
    rw [isOf_seal hb (prow_small _ _) (prow_lt h.s256 _), tD_seal hb (prow_small _ _) (prow_lt h.s256 _)]
    simp
/-- what stands there where nothing of this generation lies behind the log's end -/
structure JFine (f : Int → Sec) (n gen : Nat) (st : List Nat) (txs : List (List Nat)) (u : Nat) : Prop where
  ok : JOk f n gen st txs u
  old : ∀ p, u ≤ p → p < logOf n → ∀ kd g : Int, (gen : Int) ≤ g → isOf (f ((logAt n + p : Nat) : Int)).l kd g (p : Int) = false
theorem JFine.show {f : Int → Sec} {n gen u : Nat} {st : List Nat} {txs : List (List Nat)} (h : JFine f n gen st txs u) : JShow f n gen st txs u :=
  ⟨h.ok.n8, h.ok.nle, h.ok.fit, h.ok.gle, h.ok.s256, h.ok.slen, h.ok.top, h.ok.alt, h.ok.parts, h.ok.log, h.ok.ule, fun p h1 h2 => h.old p h1 h2 4 gen (by omega)⟩
theorem JFine.format {n : Nat} {st : List Nat} (h8 : 8 ≤ n) (hn : n ≤ 4096) (hf : pn st ≤ areaOf n) (h256 : ∀ b ∈ st, b < 256) (hl : st.length ≤ 5000) : JFine (fmtF n (fun _ => Sec.zero) st) n 1 st [] 0 := by
  have ha := area_at n 1
  have h0 : ∀ j : Int, putF (fun _ => Sec.zero) 0 [Sec.zero, Sec.zero] j = Sec.zero := fun j => by
    simp only [putF, upd]
    split
    · rfl
    · split <;> rfl
  refine ⟨JOk.format h8 hn hf h256 hl, fun p _ hp kd g hg => ?_⟩
  unfold fmtF ckptF
  rw [putF_out _ _ _ _ (by right; simp [topS]; omega), putF_out _ _ _ _ (by right; rw [body_len]; omega), h0]
  exact zero_is _ _ _
theorem LogF.none' {f : Int → Sec} {n gen : Nat} (hg : gen ≤ 4611686018427387000) : ∀ (l : List (List Nat)) (v u : Nat), LogF f n gen v l u → u ≤ 100000 → ∀ p, v ≤ p → p < u → ∀ kd g : Int, (gen : Int) < g → isOf (f ((logAt n + p : Nat) : Int)).l kd g (p : Int) = false
  | [], v, u, h, _, p, h1, h2, kd, g, hgg => by have : v = u := h; omega
  | t :: l, v, u, h, hu, p, h1, h2, kd, g, hgg => by
    have hle := LogF.le l _ u h.2.2.2.2
    by_cases hp : p < v + pn t
    · obtain ⟨k, rfl⟩ : ∃ k, p = v + k := ⟨p - v, by omega⟩
      rw [h.2.2.1 k (by omega), isOf_seal (by simp [isBoxB]; omega) (prow_small _ _) (prow_lt h.2.1 _)]
      simp
      omega
    · by_cases hp2 : p = v + pn t
      · subst hp2
        rw [h.2.2.2.1, isOf_seal (by simp [isBoxB]; omega) (by rw [numB_len]; omega) (numB_lt _)]
        simp
        omega
      · exact LogF.none' hg l _ u h.2.2.2.2 hu p (by omega) h2 kd g hgg
theorem JFine.ckpt {f : Int → Sec} {n gen u : Nat} {st st' : List Nat} {txs : List (List Nat)} (h : JFine f n gen st txs u) (hf : pn st' ≤ areaOf n) (h256 : ∀ b ∈ st', b < 256) (hl : st'.length ≤ 5000) (hg : gen + 1 ≤ 4611686018427387000) : JFine (ckptF n f (gen + 1) st') n (gen + 1) st' [] 0 := by
  have ha := area_at n (gen + 1)
  have hlo : logOf n ≤ 4096 := by have := h.ok.nle; unfold logOf; omega
  refine ⟨h.ok.ckpt hf h256 hl hg, fun p _ hp kd g hgg => ?_⟩
  unfold ckptF
  rw [putF_out _ _ _ _ (by right; simp [topS]; omega), putF_out _ _ _ _ (by right; rw [body_len]; omega)]
  by_cases hpu : p < u
  · exact LogF.none' h.ok.gle txs 0 u h.ok.log (by have := h.ok.ule; omega) p (by omega) hpu kd g (by omega)
  · exact h.old p (by omega) hp kd g (by omega)
theorem JFine.app {f : Int → Sec} {n gen u : Nat} {st tx : List Nat} {txs : List (List Nat)} (h : JFine f n gen st txs u) (hne : tx ≠ []) (h256 : ∀ b ∈ tx, b < 256) (hf : u + pn tx + 1 ≤ logOf n) : JFine (appF n f gen u tx) n gen st (txs ++ [tx]) (u + pn tx + 1) := by
  refine ⟨h.ok.app hne h256 hf, fun p hp hpl kd g hg => ?_⟩
  have hhigh : appF n f gen u tx ((logAt n + p : Nat) : Int) = f ((logAt n + p : Nat) : Int) := by
    unfold appF
    rw [putF_out _ _ _ _ (by right; simp [endS]; omega), putF_out _ _ _ _ (by right; rw [body_len]; omega)]
  rw [hhigh]
  exact h.old p (by omega) hpl kd g hg
/-! ### cut calls -/
theorem JFine.cut_app {f F : Int → Sec} {n gen u : Nat} {st tx : List Nat} {txs : List (List Nat)} (h : JFine f n gen st txs u) (h256 : ∀ b ∈ tx, b < 256) (hf : u + pn tx + 1 ≤ logOf n) (hF : ∀ j, F j = f j ∨ ∃ k, k < pn tx ∧ j = ((logAt n + (u + k) : Nat) : Int) ∧ F j = sealRes 3 gen ((u : Int) + (k : Int)) (prow tx k)) : JShow F n gen st txs u := by
  have ha := area_at n gen
  have hfit := h.ok.fit
  have hgl := h.ok.gle
  have hlo : logOf n ≤ 4096 := by have := h.ok.nle; unfold logOf; omega
  have hlow : ∀ j : Int, j < (logAt n + u : Nat) → F j = f j := fun j hj => by
    rcases hF j with e | ⟨k, _, e, _⟩
    · exact e
    · omega
  refine ⟨h.ok.n8, h.ok.nle, h.ok.fit, h.ok.gle, h.ok.s256, h.ok.slen, ?_, ?_, ?_, LogF.frame txs 0 u h.ok.log (fun p _ hp => hlow _ (by omega)), h.ok.ule, fun p h1 h2 => ?_⟩
  · rw [hlow _ (by unfold logAt; omega)]; exact h.ok.top
  · rw [hlow _ (by unfold logAt; omega)]; exact h.ok.alt
  · intro k hk
    rw [hlow _ (by omega)]; exact h.ok.parts k hk
  · rcases hF ((logAt n + p : Nat) : Int) with e | ⟨k, hk, e1, e2⟩
    · rw [e]; exact h.old p h1 h2 4 gen (by omega)
    · rw [e2, isOf_seal (by simp [isBoxB]; omega) (prow_small _ _) (prow_lt h256 _)]
      simp
theorem JFine.cut_ckpt {f F : Int → Sec} {n gen u : Nat} {st : List Nat} {txs : List (List Nat)} (h : JFine f n gen st txs u) (hF : ∀ j : Int, (j < stateAt n (gen + 1) ∨ ((stateAt n (gen + 1) + areaOf n : Nat) : Int) ≤ j) → F j = f j) : JShow F n gen st txs u := by
  have ha := area_at n gen
  have hb := area_at n (gen + 1)
  have hfit := h.ok.fit
  have hap : stateAt n gen + areaOf n ≤ stateAt n (gen + 1) ∨ stateAt n (gen + 1) + areaOf n ≤ stateAt n gen := by
    unfold stateAt
    have : gen % 2 = 0 ∨ gen % 2 = 1 := by omega
    rcases this with e | e
    · rw [e, show (gen + 1) % 2 = 1 by omega]; omega
    · rw [e, show (gen + 1) % 2 = 0 by omega]; omega
  have hlog : ∀ p, F ((logAt n + p : Nat) : Int) = f ((logAt n + p : Nat) : Int) := fun p => hF _ (by right; omega)
  refine ⟨h.ok.n8, h.ok.nle, h.ok.fit, h.ok.gle, h.ok.s256, h.ok.slen, ?_, ?_, ?_, LogF.frame txs 0 u h.ok.log (fun p _ _ => hlog p), h.ok.ule, fun p h1 h2 => ?_⟩
  · rw [hF _ (by left; omega)]; exact h.ok.top
  · rw [hF _ (by left; omega)]; exact h.ok.alt
  · intro k hk
    rw [hF _ (by omega)]; exact h.ok.parts k hk
  · rw [hlog p]; exact h.old p h1 h2 4 gen (by omega)
end Go.Proofs.YtpklcmocjimcpaaDoor
