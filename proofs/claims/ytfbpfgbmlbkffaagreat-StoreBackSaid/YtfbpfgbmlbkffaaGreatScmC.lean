/-
  What the law StoreRefused wants besides: bytes that are the same, a client blocked. No condition.
-/
import Derived.Test.YtfbpfgbmlbkffaaGreatZi
import Derived.Test.YtfbpfgbmlbkffaaGreatSckC
namespace Go.Proofs.YtfbpfgbmlbkffaaGreat
open Go.RowKit Go.BigFrame
set_option linter.unusedSimpArgs false
set_option linter.unusedVariables false
set_option maxRecDepth 100000
theorem same_by (A A' : Option Addr) (n n' c c' B B' : Nat) (bs bs' : List Nat) (w : World) (h : Bytes w B A n bs) (h' : Bytes w B' A' n' bs') :
    Calls Tryz.prog 20 #[.slice A n c, .slice A' n' c'] w fun e w' => ∃ b, e = .returned (.bool b) ∧ (bs = bs' → b = true) ∧ w = w' := by
  have k1 := str_of (P := Tryz.prog) h c 22 9 5 Tryz.underlying22 Tryz.underlying5 Tryz.underlying9
  have k2 := str_of (P := Tryz.prog) h' c' 22 9 5 Tryz.underlying22 Tryz.underlying5 Tryz.underlying9
  obtain ⟨s1, hs1⟩ : ∃ s, s = strOf bs := ⟨_, rfl⟩
  obtain ⟨s2, hs2⟩ : ∃ s, s = strOf bs' := ⟨_, rfl⟩
  rw [← hs1] at k1
  rw [← hs2] at k2
  have HE : Hid (bs = bs' → s1 = s2) := Lib.hid (fun e => by rw [hs1, hs2, e])
  clear hs1 hs2 h h'
  go_enter Tryz.func20, Tryz.ntmps20
  go_wp2
  go_ret
  exact ⟨_, rfl, fun e => by simp [HE.out e], rfl⟩
theorem do_bad {M M' : Mod} {nm : List Nat} {xs : List StepV} {k : Nat} {told : List (List Nat)} (hd : DoR M nm xs M' k told) (hk : k ≠ 0) : M' = M ∧ told = [] := by
  cases hd with
  | range => exact ⟨rfl, rfl⟩
  | step => exact ⟨rfl, rfl⟩
  | full => exact ⟨rfl, rfl⟩
  | done => exact absurd rfl hk
theorem blockAt_len (bl : List Bool) (n : Int) : (blockAt bl n).length = bl.length := by
  unfold blockAt
  split
  · exact List.length_set
  · rfl
theorem Inv.block {n : Nat} {M : Mod} (h : Inv n M) (x : Int) : Inv n {M with bl := blockAt M.bl x} := ⟨h.keys, h.few, h.len, (blockAt_len _ _).trans h.bl, h.good, h.obs, h.nms⟩
theorem InvA.block {n : Nat} {M : Mod} (h : InvA n M) (x : Int) : InvA n {M with bl := blockAt M.bl x} := ⟨h.ak, h.tot⟩
theorem Sto.block {n : Nat} {w W W' : World} {gs ms gp r c : Nat} {A : Option Addr} {M : Mod} {kv : KV} (h : Sto n w W gs ms gp r c A M kv) (x : Int) (hst : StAt W' gs ms gp r c A (blockAt M.bl x) M.fl kv) (ho : Only [gs] W W') : Sto n w W' gs ms gp r c A {M with bl := blockAt M.bl x} kv := by
  have hodd : ∀ (e : TypeId), 67 ≠ e → ∀ k ∈ [gs], Odd W e k := fun e hq k hk => by simp at hk; subst hk; exact Odd.blk h.at_.st.blk hq
  refine ⟨⟨hst, h.at_.obs.imp fun p q hr => ⟨hr.1, ?_⟩⟩, h.bel.trans (ho.below (fun k hk => by simp at hk; subst hk; exact h.gsN) h.bel.size), h.gsN, h.msN, h.gpN, h.rN, h.inv.block x⟩
  obtain ⟨go, mb, c1, ce, D, E, kv1, e, h1, h2⟩ := hr.2
  exact ⟨go, mb, c1, ce, D, E, kv1, e, h1, h2.only ho (fun k hk _ => ⟨hodd _ (by decide) k hk, hodd _ (by decide) k hk, hodd _ (by decide) k hk⟩) (fun hk => by simp at hk; exact h2.map.ne_blk h.at_.st.blk hk)⟩
theorem own_form {w : World} {base n : Nat} {v : Value} {bs : List Nat} (h : Own w base v n bs) : ∃ A c, v = .slice A n c := by
  rcases h.2 with ⟨e, h0⟩ | ⟨g, c, cur, e, _⟩
  · exact ⟨none, 0, by rw [e, h0]⟩
  · exact ⟨_, c, e⟩
theorem putM_small (M : Mod) : ∀ b ∈ flB M.bl, b < 256 := fun b hb => by
  obtain ⟨f, _, rfl⟩ := List.mem_map.1 hb
  split <;> omega
theorem own_small {w : World} {base n : Nat} {v : Value} {bs : List Nat} (h : Small bs) : Small bs := h
end Go.Proofs.YtfbpfgbmlbkffaaGreat
