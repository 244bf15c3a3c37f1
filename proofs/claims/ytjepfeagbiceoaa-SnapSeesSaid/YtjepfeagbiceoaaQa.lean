/-
  Objects and what they were at snapshots, as data: which are good, what they are at a snapshot, what a change makes of them. No condition; nothing of the program is named.
-/
import Derived.Test.YtjepfeagbiceoaaMem
namespace Go.Proofs.Ytjepfeagbiceoaa
set_option linter.unusedSimpArgs false
set_option linter.unusedVariables false
structure ClV where
  sn : List Int
  dt : List Nat
structure OV where
  th : Bool
  dt : List Nat
  sq : Int
  cl : List ClV
structure CxV where
  sq : Int
  sn : List Int
def OV.zero : OV := ⟨false, [], 0, []⟩
def riseB : Int → List Int → Bool
  | _, [] => true
  | l, s :: r => decide (l < s) && riseB s r
def topI : Int → List Int → Int
  | l, [] => l
  | _, s :: r => topI s r
def snAll (cl : List ClV) : List Int := cl.flatMap ClV.sn
structure ClG (c : ClV) : Prop where
  ne : c.sn ≠ []
  dt : c.dt.length ≤ 256
structure Good (o : OV) : Prop where
  sq : 0 ≤ o.sq
  dt : o.dt.length ≤ 256
  th : o.th = false → o.dt = []
  cn : o.cl.length ≤ 16
  cl : ∀ c ∈ o.cl, ClG c
  up : (snAll o.cl).Pairwise (· < ·)
  lim : ∀ s ∈ snAll o.cl, 0 < s ∧ s ≤ o.sq
structure CxG (c : CxV) : Prop where
  sq : 0 ≤ c.sq
  sn : c.sn.length ≤ 16
  up : c.sn.reverse.Pairwise (· < ·)
  lim : ∀ s ∈ c.sn, 0 < s ∧ s ≤ c.sq
theorem riseB_iff : ∀ (L : List Int) (l : Int), riseB l L = true ↔ L.Pairwise (· < ·) ∧ ∀ s ∈ L, l < s
  | [], l => by simp [riseB]
  | a :: L, l => by
    rw [riseB, Bool.and_eq_true, decide_eq_true_iff, riseB_iff L a, List.pairwise_cons]
    constructor
    · rintro ⟨h1, h2, h3⟩
      refine ⟨⟨fun b hb => h3 b hb, h2⟩, fun s hs => ?_⟩
      rcases List.mem_cons.1 hs with rfl | hs
      · exact h1
      · have := h3 s hs; omega
    · rintro ⟨⟨h1, h2⟩, h3⟩
      exact ⟨h3 a (by simp), h2, h1⟩
theorem riseB_app : ∀ (L M : List Int) (l : Int), riseB l (L ++ M) = (riseB l L && riseB (topI l L) M)
  | [], M, l => by simp [riseB, topI]
  | a :: L, M, l => by rw [List.cons_append, riseB, riseB, topI, riseB_app L M a, Bool.and_assoc]
theorem topI_app : ∀ (L M : List Int) (l : Int), topI l (L ++ M) = topI (topI l L) M
  | [], M, l => rfl
  | a :: L, M, l => by rw [List.cons_append, topI, topI, topI_app L M a]
theorem topI_ge : ∀ (L : List Int) (l : Int), riseB l L = true → l ≤ topI l L ∧ ∀ s ∈ L, s ≤ topI l L
  | [], l, _ => by simp [topI]
  | a :: L, l, h => by
    rw [riseB, Bool.and_eq_true, decide_eq_true_iff] at h
    have h2 := topI_ge L a h.2
    rw [topI]
    refine ⟨by omega, fun s hs => ?_⟩
    rcases List.mem_cons.1 hs with rfl | hs
    · exact h2.1
    · exact h2.2 s hs
theorem topI_mem : ∀ (L : List Int) (l : Int), topI l L = l ∨ topI l L ∈ L
  | [], l => .inl rfl
  | a :: L, l => by
    rw [topI]
    rcases topI_mem L a with h | h
    · right; rw [h]; simp
    · right; simp [h]
theorem topI_le {L : List Int} {l q : Int} (hl : l ≤ q) (h : ∀ s ∈ L, s ≤ q) : topI l L ≤ q := by
  rcases topI_mem L l with e | e
  · omega
  · exact h _ e
theorem topI_iff {L : List Int} {q : Int} (hq : 0 ≤ q) (hr : riseB 0 L = true) : topI 0 L ≤ q ↔ ∀ s ∈ L, 0 < s ∧ s ≤ q :=
  ⟨fun h s hs => ⟨((riseB_iff L 0).1 hr).2 s hs, by have := (topI_ge L 0 hr).2 s hs; omega⟩, fun h => topI_le hq fun s hs => (h s hs).2⟩
/-- is an object good? -/
def clB (c : ClV) : Bool := decide (c.sn ≠ []) && decide (c.dt.length ≤ 256)
theorem clB_iff (c : ClV) : clB c = true ↔ ClG c := by
  rw [clB, Bool.and_eq_true, decide_eq_true_iff, decide_eq_true_iff]
  exact ⟨fun h => ⟨h.1, h.2⟩, fun h => ⟨h.ne, h.dt⟩⟩
theorem good_iff (o : OV) : Good o ↔ (0 ≤ o.sq ∧ o.dt.length ≤ 256 ∧ (o.th = false → o.dt = []) ∧ o.cl.length ≤ 16) ∧ (∀ c ∈ o.cl, ClG c) ∧ riseB 0 (snAll o.cl) = true ∧ topI 0 (snAll o.cl) ≤ o.sq := by
  constructor
  · intro h
    have hr : riseB 0 (snAll o.cl) = true := (riseB_iff _ _).2 ⟨h.up, fun s hs => (h.lim s hs).1⟩
    exact ⟨⟨h.sq, h.dt, h.th, h.cn⟩, h.cl, hr, (topI_iff h.sq hr).2 h.lim⟩
  · rintro ⟨⟨h1, h2, h3, h4⟩, h5, h6, h7⟩
    exact ⟨h1, h2, h3, h4, h5, ((riseB_iff _ _).1 h6).1, (topI_iff h1 h6).1 h7⟩
/-! ### what an object is at a snapshot -/
def atC (cl : List ClV) (s : Int) : Option (List Nat) := (cl.find? fun c => c.sn.contains s).map ClV.dt
def headAt (o : OV) (s : Int) : Option (List Nat) := if o.th = true ∧ ¬ (0 < s ∧ s ≤ o.sq) then some o.dt else none
def atO (o : OV) (s : Int) : Option (List Nat) := match atC o.cl s with | some d => some d | none => headAt o s
theorem atC_none {cl : List ClV} {s : Int} : atC cl s = none ↔ s ∉ snAll cl := by
  unfold atC snAll
  rw [Option.map_eq_none_iff, List.find?_eq_none]
  constructor
  · intro h hs
    obtain ⟨c, hc, hs⟩ := List.mem_flatMap.1 hs
    exact h c hc (by simpa using hs)
  · intro h c hc hs
    exact h (List.mem_flatMap.2 ⟨c, hc, by simpa using hs⟩)
theorem atC_app (a b : List ClV) (s : Int) : atC (a ++ b) s = (match atC a s with | some d => some d | none => atC b s) := by
  unfold atC
  rw [List.find?_append]
  cases a.find? fun c => c.sn.contains s <;> simp
theorem atC_len {cl : List ClV} {s : Int} {d : List Nat} (h : atC cl s = some d) (hc : ∀ c ∈ cl, ClG c) : d.length ≤ 256 := by
  unfold atC at h
  rw [Option.map_eq_some_iff] at h
  obtain ⟨c, h1, rfl⟩ := h
  exact (hc c (List.mem_of_find?_eq_some h1)).dt
theorem atO_len {o : OV} {s : Int} {d : List Nat} (h : atO o s = some d) (hg : Good o) : d.length ≤ 256 := by
  unfold atO at h
  cases hc : atC o.cl s with
  | some e =>
    rw [hc] at h
    injection h with h
    subst h
    exact atC_len hc hg.cl
  | none =>
    rw [hc] at h
    simp only [headAt] at h
    split at h
    · injection h with h
      subst h
      exact hg.dt
    · cases h
/-! ### what is done before it changes -/
def freshI (q : Int) (c : CxV) : List Int := c.sn.reverse.filter fun s => decide (q < s)
def newCl (o : OV) (c : CxV) : List ClV := if o.th = true ∧ freshI o.sq c ≠ [] then [⟨freshI o.sq c, o.dt⟩] else []
def seeO (o : OV) (c : CxV) : OV := ⟨o.th, o.dt, c.sq, o.cl ++ newCl o c⟩
theorem fresh_mem {q s : Int} {c : CxV} : s ∈ freshI q c ↔ s ∈ c.sn ∧ q < s := by simp [freshI]
theorem see_snaps (o : OV) (c : CxV) : snAll (seeO o c).cl = snAll o.cl ++ (if o.th = true then freshI o.sq c else []) := by
  simp only [seeO, newCl, snAll, List.flatMap_append]
  congr 1
  by_cases ht : o.th = true
  · by_cases hf : freshI o.sq c = []
    · simp [ht, hf]
    · simp [ht, hf]
  · simp [ht]
/-- what a change makes of the head, where the clones and the newest snapshot stay -/
def withHead (o : OV) (h : Option (List Nat)) : OV := match h with | some d => ⟨true, d, o.sq, o.cl⟩ | none => ⟨false, [], o.sq, o.cl⟩
theorem see_at {o : OV} {c : CxV} (hg : Good o) (hc : CxG c) (hq : o.sq ≤ c.sq) (s : Int) (hs : s ∈ c.sn) (h : Option (List Nat)) : atO (withHead (seeO o c) h) s = atO o s := by
  have hl := hc.lim s hs
  have e : (withHead (seeO o c) h).cl = o.cl ++ newCl o c ∧ (withHead (seeO o c) h).sq = c.sq := by cases h <;> exact ⟨rfl, rfl⟩
  have hh : headAt (withHead (seeO o c) h) s = none := by rw [headAt, if_neg]; rw [e.2]; exact fun h => h.2 hl
  unfold atO
  rw [hh, e.1, atC_app]
  cases ha : atC o.cl s with
  | some d => rfl
  | none =>
    simp only
    rw [headAt]
    by_cases ht : o.th = true
    · by_cases hf : o.sq < s
      · have hm : s ∈ freshI o.sq c := fresh_mem.2 ⟨hs, hf⟩
        have hne : freshI o.sq c ≠ [] := fun e => by rw [e] at hm; cases hm
        rw [if_pos ⟨ht, fun h => by omega⟩]
        simp only [newCl, if_pos (And.intro ht hne), atC]
        rw [List.find?_cons_of_pos (by simpa using hm)]
        rfl
      · rw [if_neg (fun h => h.2 ⟨hl.1, by omega⟩)]
        have : atC (newCl o c) s = none := atC_none.2 fun hm => by
          unfold newCl at hm
          split at hm
          · simp [snAll] at hm
            have := (fresh_mem.1 hm).2
            omega
          · cases hm
        rw [this]
    · rw [if_neg (fun h => ht h.1)]
      simp [newCl, ht, atC]
theorem fresh_up {q : Int} {c : CxV} (hc : CxG c) : (freshI q c).Pairwise (· < ·) := hc.up.filter _
theorem see_good {o : OV} {c : CxV} (hg : Good o) (hc : CxG c) (hq : o.sq ≤ c.sq) (hn : (seeO o c).cl.length ≤ 16) (h : Option (List Nat)) (hd : ∀ d, h = some d → d.length ≤ 256) : Good (withHead (seeO o c) h) := by
  have e : (withHead (seeO o c) h).cl = (seeO o c).cl ∧ (withHead (seeO o c) h).sq = c.sq := by cases h <;> exact ⟨rfl, rfl⟩
  refine ⟨by rw [e.2]; exact hc.sq, ?_, ?_, by rw [e.1]; exact hn, ?_, ?_, ?_⟩
  · cases h with
    | none => simp [withHead]
    | some d => exact hd d rfl
  · cases h with
    | none => exact fun _ => rfl
    | some d => exact fun h => by cases h
  · rw [e.1]
    intro x hx
    rcases List.mem_append.1 hx with hx | hx
    · exact hg.cl x hx
    · unfold newCl at hx
      split at hx
      · rename_i hp
        simp at hx
        subst hx
        exact ⟨hp.2, hg.dt⟩
      · cases hx
  · rw [e.1, see_snaps, List.pairwise_append]
    refine ⟨hg.up, ?_, fun a ha b hb => ?_⟩
    · split
      · exact fresh_up hc
      · exact List.Pairwise.nil
    · split at hb
      · have := (fresh_mem.1 hb).2
        have := (hg.lim a ha).2
        omega
      · cases hb
  · rw [e.1, e.2, see_snaps]
    intro s hs
    rcases List.mem_append.1 hs with hs | hs
    · have := hg.lim s hs
      omega
    · split at hs
      · exact hc.lim s (fresh_mem.1 hs).1
      · cases hs
/-! ### a snapshot forgotten -/
def trimCl (cl : List ClV) (s : Int) : List ClV := (cl.map fun c => (⟨c.sn.filter fun x => decide (x ≠ s), c.dt⟩ : ClV)).filter fun c => decide (c.sn ≠ [])
def trimO (o : OV) (s : Int) : OV := ⟨o.th, o.dt, o.sq, trimCl o.cl s⟩
theorem trimCl_cons (c : ClV) (cl : List ClV) (s : Int) : trimCl (c :: cl) s = (if c.sn.filter (fun x => decide (x ≠ s)) ≠ [] then [(⟨c.sn.filter fun x => decide (x ≠ s), c.dt⟩ : ClV)] else []) ++ trimCl cl s := by
  unfold trimCl
  rw [List.map_cons, List.filter_cons]
  by_cases h : c.sn.filter (fun x => decide (x ≠ s)) = []
  · simp only [h, ne_eq, not_true_eq_false, decide_false, Bool.false_eq_true, if_false, List.nil_append]
  · simp only [h, ne_eq, not_false_eq_true, decide_true, if_true, List.cons_append, List.nil_append]
theorem trim_snaps : ∀ (cl : List ClV) (s : Int), snAll (trimCl cl s) = (snAll cl).filter fun x => decide (x ≠ s)
  | [], s => rfl
  | c :: cl, s => by
    have ih := trim_snaps cl s
    rw [trimCl_cons]
    unfold snAll at *
    rw [List.flatMap_append, ih, List.flatMap_cons, List.filter_append]
    congr 1
    by_cases h : c.sn.filter (fun x => decide (x ≠ s)) = []
    · simp only [h, ne_eq, not_true_eq_false, if_false, List.flatMap_nil]
    · simp only [h, ne_eq, not_false_eq_true, if_true, List.flatMap_cons, List.flatMap_nil, List.append_nil]
theorem trim_at : ∀ (cl : List ClV) (s x : Int), x ≠ s → atC (trimCl cl s) x = atC cl x
  | [], s, x, _ => rfl
  | c :: cl, s, x, hx => by
    have ih := trim_at cl s x hx
    rw [trimCl_cons, atC_app, ih, show c :: cl = [c] ++ cl from rfl, atC_app]
    have e : atC (if c.sn.filter (fun x => decide (x ≠ s)) ≠ [] then [(⟨c.sn.filter fun x => decide (x ≠ s), c.dt⟩ : ClV)] else []) x = atC [c] x := by
      by_cases hm : x ∈ c.sn
      · have hf : x ∈ c.sn.filter (fun x => decide (x ≠ s)) := by simp [hm, hx]
        rw [if_pos (fun e => by rw [e] at hf; cases hf)]
        unfold atC
        rw [List.find?_cons_of_pos (by simpa using hf), List.find?_cons_of_pos (by simpa using hm)]
        rfl
      · have h2 : atC [c] x = none := atC_none.2 (by simpa [snAll] using hm)
        rw [h2, atC_none]
        split
        · simp [snAll, hm]
        · simp [snAll]
    rw [e]
theorem trim_len : ∀ (cl : List ClV) (s : Int), (trimCl cl s).length ≤ cl.length := fun cl s => by
  unfold trimCl
  refine Nat.le_trans (List.length_filter_le _ _) ?_
  simp
theorem trim_good {o : OV} (hg : Good o) (s : Int) : Good (trimO o s) := by
  refine ⟨hg.sq, hg.dt, hg.th, Nat.le_trans (trim_len _ _) hg.cn, fun c hc => ?_, ?_, fun x hx => ?_⟩
  · unfold trimO trimCl at hc
    obtain ⟨h1, h2⟩ := List.mem_filter.1 hc
    obtain ⟨c', h3, rfl⟩ := List.mem_map.1 h1
    exact ⟨by simpa using h2, (hg.cl c' h3).dt⟩
  · show (snAll (trimCl o.cl s)).Pairwise _
    rw [trim_snaps]
    exact hg.up.filter _
  · have hx' : x ∈ snAll (trimCl o.cl s) := hx
    rw [trim_snaps] at hx'
    exact hg.lim x (List.mem_filter.1 hx').1
theorem trim_atO (o : OV) (s x : Int) (hx : x ≠ s) : atO (trimO o s) x = atO o x := by
  unfold atO
  show (match atC (trimCl o.cl s) x with | some d => some d | none => headAt (trimO o s) x) = _
  rw [trim_at _ _ _ hx]
  rfl
/-! ### how many clones -/
theorem up_len : ∀ (L : List Int) (l q : Int), l ≤ q → L.Pairwise (· < ·) → (∀ s ∈ L, l < s ∧ s ≤ q) → (L.length : Int) ≤ q - l
  | [], l, q, h, _, _ => by simp; omega
  | a :: L, l, q, h, hp, hL => by
    have h1 := hL a (by simp)
    rw [List.pairwise_cons] at hp
    have := up_len L a q h1.2 hp.2 fun s hs => ⟨hp.1 s hs, (hL s (by simp [hs])).2⟩
    simp only [List.length_cons]
    omega
theorem cl_len : ∀ (cl : List ClV), (∀ c ∈ cl, ClG c) → cl.length ≤ (snAll cl).length
  | [], _ => by simp
  | c :: cl, h => by
    have h1 := (h c (by simp)).ne
    have ih := cl_len cl fun x hx => h x (by simp [hx])
    have : 0 < c.sn.length := List.length_pos_iff.2 h1
    simp only [snAll, List.flatMap_cons, List.length_append, List.length_cons] at ih ⊢
    omega
theorem Good.few {o : OV} (hg : Good o) : (o.cl.length : Int) ≤ o.sq := by
  have h1 := cl_len o.cl hg.cl
  have h2 := up_len _ 0 o.sq hg.sq hg.up hg.lim
  omega
theorem see_few {o : OV} {c : CxV} (hg : Good o) (hc : CxG c) (hq : o.sq ≤ c.sq) : ((seeO o c).cl.length : Int) ≤ c.sq := by
  have h1 : (seeO o c).cl.length ≤ (snAll (seeO o c).cl).length := cl_len _ fun x hx => by
    rcases List.mem_append.1 hx with hx | hx
    · exact hg.cl x hx
    · unfold newCl at hx
      split at hx
      · rename_i hp
        simp at hx
        subst hx
        exact ⟨hp.2, hg.dt⟩
      · cases hx
  have h2 : ((snAll (seeO o c).cl).length : Int) ≤ c.sq - 0 := by
    refine up_len _ 0 c.sq hc.sq ?_ ?_
    · rw [see_snaps, List.pairwise_append]
      refine ⟨hg.up, ?_, fun a ha b hb => ?_⟩
      · split
        · exact fresh_up hc
        · exact List.Pairwise.nil
      · split at hb
        · have := (fresh_mem.1 hb).2
          have := (hg.lim a ha).2
          omega
        · cases hb
    · rw [see_snaps]
      intro s hs
      rcases List.mem_append.1 hs with hs | hs
      · have := hg.lim s hs
        omega
      · split at hs
        · exact hc.lim s (fresh_mem.1 hs).1
        · cases hs
  omega
theorem trim_none {cl : List ClV} (h : snAll cl = []) (hc : ∀ c ∈ cl, ClG c) : cl = [] := by
  cases cl with
  | nil => rfl
  | cons c cl =>
    have h1 := (hc c (by simp)).ne
    simp [snAll] at h
    exact absurd h.1 h1
end Go.Proofs.Ytjepfeagbiceoaa
