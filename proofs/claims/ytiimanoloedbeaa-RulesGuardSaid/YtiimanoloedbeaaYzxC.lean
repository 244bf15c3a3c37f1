/-
  What no call of package rules does to a head: as data. No condition; nothing of the program is named.
-/
import Derived.Test.YtiimanoloedbeaaOl
namespace Go.Proofs.Ytiimanoloedbeaa
open Go.RowKit Go.BigFrame
set_option linter.unusedSimpArgs false
set_option linter.unusedVariables false
set_option maxRecDepth 100000
theorem idx_lt {α : Type} (p : α → Bool) : ∀ l : List α, idxI p l < (l.length : Int)
  | [] => by simp [idxI]
  | x :: l => by
    have := idx_lt p l
    rw [idxI, List.length_cons]
    split
    · omega
    · split <;> omega
theorem num_at {v : HdV} {t : Int} (h : ¬ idxN v t < 0) : ∃ (k : Nat) (s : SnV), idxN v t = k ∧ v.sn[k]? = some s ∧ s.num = t := by
  obtain ⟨k, s, e, hs, hp⟩ := idx_at (fun s : SnV => s.num == t) v.sn (by unfold idxN at h; omega)
  exact ⟨k, s, e, hs, by simpa using hp⟩
theorem num_in {v : HdV} {t : Int} : ¬ idxN v t < 0 ↔ t ∈ v.sn.map SnV.num := by
  unfold idxN
  rw [idx_neg]
  constructor
  · intro h
    by_cases hm : t ∈ v.sn.map SnV.num
    · exact hm
    · exfalso
      refine h fun s hs => ?_
      rw [beq_eq_false_iff_ne]
      rintro rfl
      exact hm (List.mem_map.2 ⟨s, hs, rfl⟩)
  · intro hm h
    obtain ⟨s, hs, e⟩ := List.mem_map.1 hm
    have := h s hs
    rw [e] at this
    simp at this
theorem num_once {v : HdV} (hB : v.B = true) {s t : SnV} (hs : s ∈ v.sn) (ht : t ∈ v.sn) (e : s.num = t.num) : s = t := by
  have hu := ((sns_iff v).1 ((B_iff v).1 hB).2.2.2.2.1).up
  obtain ⟨i, hi⟩ := List.getElem?_of_mem hs
  obtain ⟨j, hj⟩ := List.getElem?_of_mem ht
  obtain ⟨i1, i2⟩ := List.getElem?_eq_some_iff.1 hi
  obtain ⟨j1, j2⟩ := List.getElem?_eq_some_iff.1 hj
  have hp := List.pairwise_iff_getElem.1 hu
  rcases Nat.lt_trichotomy i j with q | q | q
  · have := hp i j (by simpa using i1) (by simpa using j1) q
    simp only [List.getElem_map, i2, j2] at this
    omega
  · subst q
    rw [hi] at hj
    injection hj
  · have := hp j i (by simpa using j1) (by simpa using i1) q
    simp only [List.getElem_map, i2, j2] at this
    omega
/-- each number is there still, but for the one that is removed -/
theorem call_keep {v v' : HdV} {x : CA} (h : CallO v x v') {t : Int} (ht : t ∈ v.sn.map SnV.num) (hno : ¬ (x.kind = 12 ∧ v.it = 3 ∧ v.tg = t)) : t ∈ v'.sn.map SnV.num := by
  have hset : ∀ {i : Nat} {s s' : SnV}, v.sn[i]? = some s → s'.num = s.num → t ∈ (v.setSn i s').sn.map SnV.num := fun {i s s'} hs hn => by
    show t ∈ (v.sn.set i s').map SnV.num
    rw [map_set_same SnV.num hs hn]; exact ht
  rcases h with ⟨_, _, _, _, rfl⟩ | ⟨_, _, _, rfl⟩ | ⟨_, _, rfl⟩ | ⟨_, _, rfl⟩ | ⟨_, _, _, _, _, _, rfl⟩ | ⟨_, i, s, _, hs, _, rfl⟩ | ⟨_, i, s, _, hs, _, rfl⟩ | ⟨_, i, s, _, hs, s', ⟨_, _, j, hj, rfl⟩, rfl⟩ | ⟨_, i, s, _, hs, j, _, rfl⟩ | ⟨_, _, _, _, rfl⟩ | ⟨_, _, rfl⟩ | ⟨hk, h⟩ | ⟨_, _, _, _, rfl⟩ | ⟨_, _, h⟩ | ⟨_, _, rfl⟩
  · exact ht
  · exact ht
  · exact ht
  · exact ht
  · show t ∈ (v.sn ++ [_]).map SnV.num
    rw [List.map_append]
    exact List.mem_append.2 (.inl ht)
  · exact hset hs rfl
  · exact hset hs rfl
  · exact hset hs rfl
  · exact hset hs rfl
  · exact ht
  · exact ht
  · rcases h with ⟨_, rfl⟩ | ⟨_, i, s, _, hs, rfl⟩ | ⟨h3, i, s, hi, hs, rfl⟩ | ⟨_, rfl⟩
    · exact ht
    · exact ht
    · have hne : t ≠ v.tg := fun e => hno ⟨hk, h3, e.symm⟩
      obtain ⟨k, s9, e9, hs9, hn9⟩ := num_at (v := v) (t := v.tg) (by rw [hi]; omega)
      obtain rfl : k = i := by omega
      rw [hs] at hs9
      injection hs9 with hs9
      subst hs9
      -- what stays behind the i-th
      have hmem : ∀ (l : List SnV), l.map SnV.num = v.sn.map SnV.num → t ∈ (l.eraseIdx k).map SnV.num := fun l hl => by
        rw [map_erase, hl]
        obtain ⟨j, hj⟩ := List.getElem?_of_mem ht
        have hjk : j ≠ k := by
          rintro rfl
          rw [List.getElem?_map, hs] at hj
          injection hj with hj
          exact hne (hj.symm.trans hn9)
        rcases Nat.lt_or_ge j k with q | q
        · exact List.mem_of_getElem? (i := j) (by rw [List.getElem?_eraseIdx_of_lt q]; exact hj)
        · exact List.mem_of_getElem? (i := j - 1) (by rw [List.getElem?_eraseIdx_of_ge (by omega), show j - 1 + 1 = j by omega]; exact hj)
      show t ∈ (remV v k s).sn.map SnV.num
      unfold remV
      split
      · rename_i n hn
        exact hmem _ (map_set_same SnV.num hn rfl)
      · exact hmem _ rfl
    · exact ht
  · split
    · exact ht
    · exact ht
  · rcases h with ⟨_, _, _, rfl⟩ | ⟨_, i, s, _, hs, _, _, rfl⟩
    · exact ht
    · exact hset hs rfl
  · exact ht
theorem call_gone {v v' : HdV} {x : CA} (h : CallO v x v') {s : SnV} (hs : s ∈ v.sn) (hg : idxN v' s.num < 0) : x.kind = 12 ∧ v.it = 3 ∧ v.tg = s.num := by
  by_cases hno : x.kind = 12 ∧ v.it = 3 ∧ v.tg = s.num
  · exact hno
  · exact absurd hg (num_in.2 (call_keep h (List.mem_map.2 ⟨s, hs, rfl⟩) hno))
/-- nothing that is protected, or has children, is begun to be removed -/
theorem call_beg {v v' : HdV} {x : CA} (h : CallO v x v') (hB : v.B = true) (hk : x.kind = 11) (hn : x.n = 3) {s : SnV} (hs : s ∈ v.sn) (hm : x.m = s.num) : s.prot = false ∧ s.ch = [] := by
  have hb : BegO v x.n x.m v' := by
    rcases h with ⟨k, _⟩ | ⟨k, _⟩ | ⟨k, _⟩ | ⟨k, _⟩ | ⟨k, _⟩ | ⟨k, _⟩ | ⟨k, _⟩ | ⟨k, _⟩ | ⟨k, _⟩ | ⟨k, _⟩ | ⟨_, h⟩ | ⟨k, _⟩ | ⟨k, _⟩ | ⟨k, _⟩ | ⟨k, _⟩
    all_goals first | exact h | omega
  have hr := hb.1
  rw [hn, hm] at hr
  have hin : ¬ idxN v s.num < 0 := num_in.2 (List.mem_map.2 ⟨s, hs, rfl⟩)
  unfold refB at hr
  by_cases c0 : v.it ≠ 0
  · rw [if_pos c0] at hr; omega
  rw [if_neg c0, if_neg (by omega), if_neg (by omega), if_neg (by omega), if_pos rfl, if_neg hin] at hr
  have hp : protAt v s.num = false := by
    cases hp : protAt v s.num with
    | false => rfl
    | true => rw [hp, if_pos rfl] at hr; omega
  obtain ⟨k, t, e, ht, hnum⟩ := num_at hin
  obtain rfl : t = s := num_once hB (List.mem_of_getElem? ht) hs hnum
  have hpr : t.prot = false := by
    unfold protAt at hp
    rw [e] at hp
    simp only [Int.toNat_natCast] at hp
    rw [ht] at hp
    exact hp
  refine ⟨hpr, ?_⟩
  rcases (atSn hB ht).2.pr with h | h
  · rw [hpr] at h; cases h
  · exact h
/-- what is being removed isn't protected -/
theorem call_prot {v v' : HdV} {x : CA} (h : CallO v x v') (hit : v.it = 3) (hp : ∀ s ∈ v.sn, s.num = v.tg → s.prot = false) {s' : SnV} (hs' : s' ∈ v'.sn) (hn : s'.num = v.tg) : s'.prot = false := by
  have hset : ∀ {i : Nat} {s t : SnV}, v.sn[i]? = some s → t.num = s.num → t.prot = s.prot → s' ∈ (v.setSn i t).sn → s'.prot = false := fun {i s t} hs hn2 hpr hm => by
    rcases List.mem_or_eq_of_mem_set hm with hm | rfl
    · exact hp s' hm hn
    · rw [hpr]; exact hp s (List.mem_of_getElem? hs) (hn2 ▸ hn)
  rcases h with ⟨_, _, _, _, rfl⟩ | ⟨_, _, _, rfl⟩ | ⟨_, _, rfl⟩ | ⟨_, _, rfl⟩ | ⟨_, hz, _, _, _, _, rfl⟩ | ⟨_, i, s, _, hs, hpo, rfl⟩ | ⟨_, i, s, _, hs, _, rfl⟩ | ⟨_, i, s, _, hs, t, ⟨_, _, j, hj, rfl⟩, rfl⟩ | ⟨_, i, s, _, hs, j, _, rfl⟩ | ⟨_, hz, _, _, rfl⟩ | ⟨_, _, rfl⟩ | ⟨hk, h⟩ | ⟨_, _, _, _, rfl⟩ | ⟨_, _, h⟩ | ⟨_, _, rfl⟩
  · exact hp s' hs' hn
  · exact hp s' hs' hn
  · exact hp s' hs' hn
  · exact hp s' hs' hn
  · omega
  · rcases List.mem_or_eq_of_mem_set hs' with hm | rfl
    · exact hp s' hm hn
    · exact absurd ⟨hit, hn.symm⟩ hpo.1
  · rcases List.mem_or_eq_of_mem_set hs' with hm | rfl
    · exact hp s' hm hn
    · rfl
  · exact hset hs (by rfl) (by rfl) hs'
  · exact hset hs (by rfl) (by rfl) hs'
  · omega
  · exact hp s' hs' hn
  · rcases h with ⟨h1, rfl⟩ | ⟨h1, i, s, _, hs, rfl⟩ | ⟨_, i, s, _, hs, rfl⟩ | ⟨h1, rfl⟩
    · omega
    · omega
    · have hs2 : s' ∈ (remV v i s).sn := hs'
      unfold remV at hs2
      split at hs2
      · rename_i n hnn
        have h2 := (List.eraseIdx_sublist _ _).subset hs2
        rcases List.mem_or_eq_of_mem_set h2 with h2 | rfl
        · exact hp s' h2 hn
        · exact hp n (List.mem_of_getElem? hnn) hn
      · exact hp s' ((List.eraseIdx_sublist _ _).subset hs2) hn
    · omega
  · split at hs'
    · exact hp s' hs' hn
    · exact hp s' hs' hn
  · rcases h with ⟨_, _, _, rfl⟩ | ⟨_, i, s, _, hs, _, _, rfl⟩
    · exact hp s' hs' hn
    · exact hset hs (by rfl) (by rfl) hs'
  · exact hp s' hs' hn
/-- who owns a lock goes on, unless it is broken, or released by its owner -/
theorem call_own {v v' : HdV} {x : CA} (h : CallO v x v') (ho : v.ow ≠ -1) (hne : v'.ow ≠ v.ow) : x.kind = 3 ∨ (x.kind = 2 ∧ x.n = v.ow) := by
  rcases h with ⟨_, _, _, h1, rfl⟩ | ⟨hk, h1, _, rfl⟩ | ⟨hk, _, rfl⟩ | ⟨_, _, rfl⟩ | ⟨_, _, _, _, _, _, rfl⟩ | ⟨_, i, s, _, hs, _, rfl⟩ | ⟨_, i, s, _, hs, _, rfl⟩ | ⟨_, i, s, _, hs, s', ⟨_, _, j, hj, rfl⟩, rfl⟩ | ⟨_, i, s, _, hs, j, _, rfl⟩ | ⟨_, _, _, _, rfl⟩ | ⟨_, _, rfl⟩ | ⟨hk, h⟩ | ⟨_, _, _, _, rfl⟩ | ⟨_, _, h⟩ | ⟨_, _, rfl⟩
  · exact absurd (show x.n = v.ow by omega) hne
  · refine .inr ⟨hk, ?_⟩
    unfold ownedB at h1
    simp only [Bool.and_eq_true, beq_iff_eq] at h1
    exact h1.2.symm
  · exact .inl hk
  · exact absurd rfl hne
  · exact absurd rfl hne
  · exact absurd rfl hne
  · exact absurd rfl hne
  · exact absurd rfl hne
  · exact absurd rfl hne
  · exact absurd rfl hne
  · exact absurd rfl hne
  · rcases h with ⟨_, rfl⟩ | ⟨_, i, s, _, hs, rfl⟩ | ⟨_, i, s, _, hs, rfl⟩ | ⟨_, rfl⟩
    · exact absurd rfl hne
    · exact absurd rfl hne
    · refine absurd ?_ hne
      show (remV v i s).ow = v.ow
      unfold remV
      split <;> rfl
    · exact absurd rfl hne
  · refine absurd ?_ hne
    split <;> rfl
  · rcases h with ⟨_, _, _, rfl⟩ | ⟨_, i, s, _, hs, _, _, rfl⟩
    · exact absurd rfl hne
    · exact absurd rfl hne
  · exact absurd rfl hne
/-- nothing begins while something is being done -/
theorem call_it {v v' : HdV} {x : CA} (h : CallO v x v') (hi : v.it ≠ 0) (hne : v'.it ≠ v.it) : v'.it = 0 := by
  rcases h with ⟨_, _, _, h1, rfl⟩ | ⟨hk, h1, _, rfl⟩ | ⟨hk, _, rfl⟩ | ⟨_, _, rfl⟩ | ⟨_, _, _, _, _, _, rfl⟩ | ⟨_, i, s, _, hs, _, rfl⟩ | ⟨_, i, s, _, hs, _, rfl⟩ | ⟨_, i, s, _, hs, s', ⟨_, _, j, hj, rfl⟩, rfl⟩ | ⟨_, i, s, _, hs, j, _, rfl⟩ | ⟨_, _, _, _, rfl⟩ | ⟨_, hr, rfl⟩ | ⟨hk, h⟩ | ⟨_, _, _, _, rfl⟩ | ⟨_, _, h⟩ | ⟨_, _, rfl⟩
  · exact absurd rfl hne
  · exact absurd rfl hne
  · exact absurd rfl hne
  · exact absurd rfl hne
  · exact absurd rfl hne
  · exact absurd rfl hne
  · exact absurd rfl hne
  · exact absurd rfl hne
  · exact absurd rfl hne
  · exact absurd rfl hne
  · unfold refB at hr
    rw [if_pos hi] at hr
    omega
  · rcases h with ⟨_, rfl⟩ | ⟨_, i, s, _, hs, rfl⟩ | ⟨_, i, s, _, hs, rfl⟩ | ⟨_, rfl⟩ <;> rfl
  · refine absurd ?_ hne
    split <;> rfl
  · rcases h with ⟨_, _, _, rfl⟩ | ⟨_, i, s, _, hs, _, _, rfl⟩
    · exact absurd rfl hne
    · exact absurd rfl hne
  · exact absurd rfl hne
end Go.Proofs.Ytiimanoloedbeaa
