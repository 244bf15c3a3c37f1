/-
  A heap of holes: made of any row; its top taken. Conditions: the heap reads as it is said to.
-/
import Derived.Test.YtliockcbnmbhnaaSu
namespace Go.Proofs.Ytliockcbnmbhnaa
open Go.RowKit Go.BigFrame
set_option linter.unusedSimpArgs false
set_option linter.unusedVariables false
set_option maxRecDepth 100000 in
set_option maxHeartbeats 4000000 in
theorem init_any {w : World} {hb r c : Nat} {xs : List (Nat × Nat)} (h : HAt w hb r c xs) :
    Calls Try.prog 38 #[.iface 81 (.pointer (some ⟨hb, 0, none⟩))] w fun e' w' => e' = .returned (.tuple #[]) ∧ ∃ ys, HAt w' hb r c ys ∧ ys.Perm xs ∧ HFrom ys ys.length 0 ∧ Only [hb, r] w w' := by
  have HH := Lib.hid h
  have hlim := h.lim
  have hm := fun f => meth_len w f hb _ _ _ h.cell
  clear h
  have hq : (xs.length : Int).tdiv 2 = ((xs.length / 2 : Nat) : Int) := by rw [Int.tdiv_eq_ediv_of_nonneg (by omega)]; omega
  have hw1 : IntKind.i64.wrap (((xs.length / 2 : Nat) : Int)) = ((xs.length / 2 : Nat) : Int) := by rw [IntKind.wrap_i64]; omega
  have hw2 : IntKind.i64.wrap (((xs.length / 2 : Nat) : Int) - 1) = ((xs.length / 2 : Nat) : Int) - 1 := by rw [IntKind.wrap_i64]; omega
  go_enter Try.func38, Try.ntmps38
  go_wp2_with fail
  refine (hlen_any _ _ _ _).mono ?_
  rintro e w ⟨rfl, rfl⟩
  clear hm
  go_wp2
  go_loopw [3] (fun i wr => ∃ (k : Nat) (ys : List (Nat × Nat)), k ≤ 65536 ∧ i = .int .i64 ((k : Int) - 1) ∧ HAt wr hb r c ys ∧ ys.Perm xs ∧ HFrom ys xs.length k ∧ Only [hb, r] w wr) (fun i _ => (intS i + 1).toNat)
  case atStart => 
    exact ⟨xs.length / 2, xs, by omega, by go_num, HH.out, List.Perm.refl _, HFrom.half _ _, Only.refl _ _⟩
  case round =>
    obtain ⟨k, ys, hk, rfl, ha, hp, hf, ho⟩ := hrel
    have hlen := hp.length_eq
    by_cases h0 : k = 0
    · subst h0
      have HP := Lib.hid (And.intro ha (And.intro hp (And.intro hf ho)))
      clear ha hp hf ho
      go_wp2
      refine bodyPost_end (results_none rfl _ _ _) rfl ?_
      exact ⟨rfl, ys, HP.out.1, HP.out.2.1, by rw [hlen]; exact HP.out.2.2.1, HP.out.2.2.2⟩
    · obtain ⟨j, rfl⟩ : ∃ j, k = j + 1 := ⟨k - 1, by omega⟩
      have HD := Lib.hid (down_any ha (n := xs.length) (by omega) (i0 := j) (by omega) hf.but)
      have HO := Lib.hid (And.intro hp ho)
      clear ha hp hf ho
      have he : ((j + 1 : Nat) : Int) - 1 = (j : Int) := by omega
      rw [he]
      have hwk : IntKind.i64.wrap ((j : Int) - 1) = (j : Int) - 1 := by rw [IntKind.wrap_i64]; omega
      go_wp2_with fail
      refine HD.out.mono ?_
      rintro e2 w2 ⟨⟨b, rfl⟩, ys2, ha2, hp2, hf2, -, ho2⟩
      have HR := Lib.hid (And.intro ha2 (And.intro (hp2.trans HO.out.1) (And.intro hf2 (HO.out.2.trans ho2 (Fresh.refl _ _)))))
      clear HD HO ha2 hp2 hf2 ho2
      go_wp2
      go_roundw
      case rel => exact ⟨j, ys2, by omega, rfl, HR.out⟩
      case measure => simp [intS]
set_option maxRecDepth 100000 in
set_option maxHeartbeats 4000000 in
theorem pop_any {w : World} {hb r c : Nat} {xs : List (Nat × Nat)} (h : HAt w hb r c xs) (hf : HFrom xs xs.length 0) (h0 : 0 < xs.length) :
    Calls Try.prog 39 #[.iface 81 (.pointer (some ⟨hb, 0, none⟩))] w fun e' w' => e' = .returned (.iface 45 (.agg #[.int .i64 ((gx xs 0).1 : Int), .int .i64 ((gx xs 0).2 : Int)])) ∧ ∃ ys, HAt w' hb r c ys ∧ ys.Perm (xs.erase (gx xs 0)) ∧ HFrom ys ys.length 0 ∧ Only [hb, r] w w' := by
  obtain ⟨n, hn⟩ : ∃ n, xs.length = n + 1 := ⟨xs.length - 1, by omega⟩
  have HH := Lib.hid h
  have hlim := h.lim
  have hm := fun f => meth_len w f hb _ _ _ h.cell
  have hm2 := fun f => meth_swap w f hb _ _ _ h.cell
  have hsw : ∃ ys, HFrom ys n 1 ∧ ys.Perm xs ∧ gx ys n = gx xs 0 ∧ Calls Try.prog 78 #[.slice (some ⟨r, 0, none⟩) (n + 1) c, .int .i64 0, .int .i64 n] w fun e' w' => e' = .returned (.tuple #[]) ∧ HAt w' hb r c ys ∧ Only [hb, r] w w' := by
    by_cases hz : n = 0
    · subst hz
      refine ⟨xs, fun i j _ _ hj => by omega, List.Perm.refl _, rfl, ?_⟩
      refine (swap_same (c := c) h.row h0 (by omega) (by omega)).mono ?_
      rintro e w' ⟨rfl, hr, ho, -⟩
      exact ⟨rfl, ⟨h.box.of (ho.block hb h.box.lt (by simpa using h.ne)), hr, h.cap, h.lim⟩, ho.mono (by simp)⟩
    · refine ⟨swapL xs 0 n, HFrom.last (hn ▸ hf) hn, swapL_perm (by omega) (by omega), ?_, swap_gx h 0 n (n + 1) 0 n (by omega) (by omega) (by omega) hn rfl rfl⟩
      rw [gx_swap (by omega) (by omega), if_pos rfl]
  obtain ⟨y1, f1, p1, g1, s1⟩ := hsw
  have HS := Lib.hid s1
  have HY := Lib.hid (And.intro f1.but (And.intro p1 g1))
  have hl1 := p1.length_eq
  rw [hn] at hm hm2 hl1 hlim
  clear h hf s1 f1 p1 g1 h0
  have hw : IntKind.i64.wrap ((n : Int) + 1 - 1) = (n : Int) := by rw [IntKind.wrap_i64]; omega
  go_enter Try.func39, Try.ntmps39
  go_wp2_with fail
  refine (hlen_any _ _ _ _).mono ?_
  rintro e w ⟨rfl, rfl⟩
  go_wp2_with fail
  refine HS.out.mono ?_
  rintro e w1 ⟨rfl, a1, o1⟩
  have HD := Lib.hid (down_any a1 (n := n) (by omega) (i0 := 0) (by omega) HY.out.1)
  have HO := Lib.hid o1
  clear hm hm2 HS a1 o1
  go_wp2_with fail
  refine HD.out.mono ?_
  rintro e2 w2 ⟨⟨b, rfl⟩, y2, a2, p2, f2, u2, o2⟩
  have hl2 := p2.length_eq
  have hsp : y2 = y2.take n ++ [gx xs 0] := by
    have h1 := (List.take_append_drop n y2).symm
    have h2 : y2.drop n = [gx xs 0] := by
      rw [List.drop_eq_getElem_cons (by omega), List.drop_of_length_le (by omega)]
      have := gx_some (xs := y2) (i := n) (by omega)
      rw [u2 n (Nat.le_refl _), HY.out.2.2, List.getElem?_eq_getElem (by omega)] at this
      injection this with this
      rw [this]
    rwa [h2] at h1
  have hzl : (y2.take n).length = n := by simp; omega
  have hpz : (y2.take n).Perm (xs.erase (gx xs 0)) := by
    have q := (p2.trans HY.out.2.1)
    rw [hsp] at q
    have q2 := (List.perm_append_comm.trans q).erase (gx xs 0)
    simpa using q2
  have hfz : HFrom (y2.take n) (y2.take n).length 0 := by
    refine HFrom.prefix_ (e := gx xs 0) ?_
    rw [← hsp, hzl]
    exact f2
  rw [hsp] at a2
  generalize y2.take n = zs at *
  have HPO := Lib.hid (hpop_any a2)
  have HZ := Lib.hid (And.intro hpz (And.intro hfz (HO.out.trans o2 (Fresh.refl _ _))))
  have hm3 := fun f => meth_pop w2 f hb
  clear HD HO a2 p2 f2 u2 o2 hpz hfz hsp
  go_wp2_with fail
  refine HPO.out.mono ?_
  rintro e3 w3 ⟨rfl, a3, o3⟩
  have HA := Lib.hid (And.intro a3 o3)
  clear HPO a3 o3
  go_wp2
  go_ret
  exact ⟨rfl, zs, HA.out.1, HZ.out.1, HZ.out.2.1, HZ.out.2.2.trans (HA.out.2.mono (by simp)) (Fresh.refl _ _)⟩
end Go.Proofs.Ytliockcbnmbhnaa
