/-
  A map's keys: as many as there are names, if none stands twice. No condition.
-/
import Derived.Test.YtldnghmgdmjljaaHf
import Derived.Test.YtldnghmgdmjljaaMs
namespace Go.Proofs.Ytldnghmgdmjljaa
open Go.RowKit Go.BigFrame
set_option linter.unusedSimpArgs false
set_option linter.unusedVariables false
def keyB (bs : List Nat) : Key := bs.map UInt8.ofNat
theorem keyB_val (bs : List Nat) : keyV (keyB bs) = .string (strOf bs) := by
  unfold keyV keyB
  congr 1
  have := strOf_data bs
  cases h : strOf bs with
  | mk d => rw [h] at this; simp at this; rw [← this]
theorem keyB_inj {a b : List Nat} (ha : ∀ x ∈ a, x < 256) (hb : ∀ x ∈ b, x < 256) (h : keyB a = keyB b) : a = b := by
  apply strOf_inj ha hb
  have := keyB_val a
  rw [h, keyB_val] at this
  injection this with this
  exact this.symm
theorem keyB_len (bs : List Nat) : (keyB bs).length = bs.length := by simp [keyB]
theorem ains_mem (x y : Key × Value) : ∀ l : KV, y ∈ ains x l ↔ y = x ∨ y ∈ l
  | [] => by simp [ains]
  | z :: r => by
    rw [ains]
    split
    · simp
    · rw [List.mem_cons, ains_mem x y r, List.mem_cons]
      constructor
      · rintro (h | h | h)
        · exact .inr (.inl h)
        · exact .inl h
        · exact .inr (.inr h)
      · rintro (h | h | h)
        · exact .inr (.inl h)
        · exact .inl h
        · exact .inr (.inr h)
theorem ains_len (x : Key × Value) : ∀ l : KV, (ains x l).length = l.length + 1
  | [] => rfl
  | z :: r => by
    rw [ains]
    split
    · simp
    · rw [List.length_cons, ains_len x r, List.length_cons]
/-- the map's keys are just these -/
structure Keys (l : KV) (ks : List Key) : Prop where
  mem : ∀ k, k ∈ l.map Prod.fst ↔ k ∈ ks
  le : l.length ≤ ks.length
  eq : l.length = ks.length ↔ ks.Nodup
theorem Keys.nil : Keys [] [] := ⟨fun k => by simp, Nat.le_refl _, by simp⟩
theorem Keys.put {l : KV} {ks : List Key} (h : Keys l ks) (k : Key) (v : Value) : Keys (aput k v l) (ks ++ [k]) := by
  have hm : ∀ j, j ∈ (aput k v l).map Prod.fst ↔ j = k ∨ j ∈ l.map Prod.fst := by
    intro j
    unfold aput
    simp only [List.mem_map, ains_mem, adel, List.mem_filter]
    constructor
    · rintro ⟨p, rfl | ⟨hp, hk⟩, rfl⟩
      · exact .inl rfl
      · exact .inr ⟨p, hp, rfl⟩
    · rintro (rfl | ⟨p, hp, rfl⟩)
      · exact ⟨_, .inl rfl, rfl⟩
      · by_cases e : p.1 = k
        · exact ⟨(k, v), .inl rfl, e.symm⟩
        · exact ⟨p, .inr ⟨hp, by simpa using e⟩, rfl⟩
  have hlen : (aput k v l).length = (adel k l).length + 1 := by unfold aput; rw [ains_len]
  have hnd : (ks ++ [k]).Nodup ↔ ks.Nodup ∧ k ∉ ks := by
    rw [List.nodup_append]
    constructor
    · rintro ⟨h1, _, h3⟩
      exact ⟨h1, fun hk => h3 k hk k (by simp) rfl⟩
    · rintro ⟨h1, h2⟩
      exact ⟨h1, by simp, fun a ha b hb => by simp at hb; subst hb; rintro rfl; exact h2 ha⟩
  by_cases hk : k ∈ ks
  · have hlt : (adel k l).length < l.length := by
      have := (h.mem k).2 hk
      obtain ⟨p, hp, e⟩ := List.mem_map.1 this
      unfold adel
      have hle := List.length_filter_le (fun p : Key × Value => !(p.1 == k)) l
      rcases Nat.lt_or_eq_of_le hle with h' | h'
      · exact h'
      · have := (List.length_filter_eq_length_iff.1 h') p hp
        simp [e] at this
    have := h.le
    refine ⟨fun j => by rw [hm, h.mem]; simp; constructor <;> (rintro (a | a) <;> simp [a]), by rw [hlen, List.length_append, List.length_singleton]; omega, ?_⟩
    rw [hnd, hlen, List.length_append, List.length_singleton]
    exact ⟨fun e => by omega, fun e => absurd hk e.2⟩
  · have he : adel k l = l := by
      unfold adel
      rw [List.filter_eq_self]
      intro p hp
      have : p.1 ∈ l.map Prod.fst := List.mem_map.2 ⟨p, hp, rfl⟩
      rw [h.mem] at this
      simp
      rintro rfl
      exact hk this
    rw [he] at hlen
    have := h.le
    refine ⟨fun j => by rw [hm, h.mem]; simp; constructor <;> (rintro (a | a) <;> simp [a]), by rw [hlen, List.length_append, List.length_singleton]; omega, ?_⟩
    rw [hnd, hlen, List.length_append, List.length_singleton, ← h.eq]
    exact ⟨fun e => ⟨by omega, hk⟩, fun e => by omega⟩
theorem nodup_keys {l : List (List Nat)} (h : ∀ c ∈ l, ∀ b ∈ c, b < 256) : (l.map keyB).Nodup ↔ l.Nodup := by
  unfold List.Nodup
  rw [List.pairwise_map]
  constructor
  · intro hp
    exact hp.imp fun h e => h (by rw [e])
  · intro hp
    exact List.Pairwise.imp_of_mem (fun {a b} ha hb hne e => hne (keyB_inj (h a ha) (h b hb) e)) hp
end Go.Proofs.Ytldnghmgdmjljaa
