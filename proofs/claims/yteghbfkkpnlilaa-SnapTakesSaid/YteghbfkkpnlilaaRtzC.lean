/-
  The law SnapTakes, walked: for all bytes it returns true and changes nothing that was there. No condition.
-/
import Derived.Test.YteghbfkkpnlilaaZg
namespace Go.Proofs.Yteghbfkkpnlilaa
open Go.RowKit Go.BigFrame
set_option linter.unusedSimpArgs false
set_option linter.unusedVariables false
set_option maxRecDepth 100000
theorem own_move9 {W V : World} {b size n : Nat} {e : TypeId} {v : Value} {xs : List Value} (h : W.ownsRow b e size v n xs) (hV : ∀ k, b ≤ k → k < W.heap.size → V.heap[k]? = W.heap[k]?) : V.ownsRow b e size v n xs := row_of h fun k hk => hV k (row_over h k hk) (row_under h k hk)
theorem OA.N.move9 {q : OA} {W V : World} {b : Nat} (h : q.N W b) (hV : ∀ k, b ≤ k → k < W.heap.size → V.heap[k]? = W.heap[k]?) : q.N V b :=
  ⟨own_move9 h.dt hV, h.ok, own_move9 h.row hV, fun c hc => ⟨own_move9 (h.cl c hc).sn hV, own_move9 (h.cl c hc).dt hV, (h.cl c hc).ok, (h.cl c hc).i1⟩, h.q1, h.q2, h.dD, h.dS⟩
theorem OA.zero_N9 (w : World) (b : Nat) : OA.zero.N w b :=
  ⟨Own.nil _ _, fun b hb => (by cases hb), OwnC.nil _ _ _, fun c hc => (by cases hc), by decide, by decide, List.pairwise_singleton _ _, List.Pairwise.nil⟩
theorem stake_one {w : World} {b : List Nat} {e : Ending} {w' : World} (h : STakeTo w b e w') : Below w.heap.size w w' ∧ ∃ (k : Bool) (a : OA), (k = true ↔ SOk b) ∧ e = .returned (.tuple #[.agg a.cs, if k = true then .nilIface else errV 2]) ∧ (k = true → a.v = (⟨b, false⟩ : RD).sov) ∧ (k = false → a.v = OV.zero) ∧ a.N w' w.heap.size := by
  obtain ⟨hb, ⟨h1, a, rfl, h2, h3⟩ | ⟨h1, rfl⟩⟩ := h
  · exact ⟨hb, true, a, ⟨fun _ => h1, fun _ => rfl⟩, rfl, fun _ => h2, fun h => (by cases h), h3⟩
  · exact ⟨hb, false, OA.zero, ⟨fun h => (by cases h), fun h => absurd h h1⟩, rfl, fun h => (by cases h), fun _ => rfl, OA.zero_N9 _ _⟩
theorem dtake_one {w : World} {b : List Nat} {e : Ending} {w' : World} (h : DTake9To w b e w') : Below w.heap.size w w' ∧ ∃ (k : Bool) (d : OA), (k = true ↔ DOk9 b) ∧ e = .returned (.tuple #[.agg d.cs, .bool k]) ∧ (k = true → d.v = (⟨b, false⟩ : RD).dov) ∧ (k = false → d.v = OV.zero) ∧ ∀ W, (∀ k, w.heap.size ≤ k → k < w'.heap.size → W.heap[k]? = w'.heap[k]?) → d.R W := by
  obtain ⟨hb, ⟨h1, a, rfl, h2, h3⟩ | ⟨h1, rfl⟩⟩ := h
  · exact ⟨hb, true, a, ⟨fun _ => h1, fun _ => rfl⟩, rfl, fun _ => h2, fun h => (by cases h), h3⟩
  · exact ⟨hb, false, OA.zero, ⟨fun h => (by cases h), fun h => absurd h h1⟩, rfl, fun h => (by cases h), fun _ => rfl, fun W _ => OA.zero_R W⟩
theorem zero_Sm9 {q : OA} (h : q.v = OV.zero) : q.Sm := by
  have e1 : q.dt = [] := congrArg OV.dt h
  have e2 : q.cl.map CA.v = [] := congrArg OV.cl h
  have e3 : q.cl = [] := List.map_eq_nil_iff.1 e2
  exact ⟨by rw [e1]; simp, by rw [e3]; simp, fun c hc => by rw [e3] at hc; cases hc⟩
theorem sobj_zero10 (w : World) : (zeroValue 36).run Try.prog w = .ok (.agg #[.bool false, .slice none 0 0, .int .i64 0, .slice none 0 0]) w := by kernel_rfl
set_option maxHeartbeats 16000000 in
theorem snapTakes_walk (A : Option Addr) (n c : Nat) (bs : List Nat) (m0 : n ≤ c ∧ c ≤ 9223372036854775807) {w : World} (hb : Bytes w w.heap.size A n bs) :
    Calls Try.prog 5 #[.slice A n c] w fun e w' => e = .returned (.bool true) ∧ Below w.heap.size w w' := by
  obtain rfl : n = bs.length := hb.len.symm
  have HB := Lib.hid hb
  have HSB := Lib.hid hb.2
  clear hb m0
  have hz1 := sobj_zero10
  have hz2 := robj_zero9
  go_enter Try.func5, Try.ntmps5
  go_wp2_with fail
  refine (alive_any w).mono ?_
  rintro e w1 ⟨rfl, b1⟩
  have B1 := Lib.hid b1
  clear b1
  by_cases hn : bs.length ≤ 5000
  rotate_left
  · have hd : decide ((5000 : Int) < (bs.length : Int)) = true := decide_eq_true (by omega)
    go_wp2
    go_ret
    exact ⟨rfl, B1.out⟩
  have hd : decide ((5000 : Int) < (bs.length : Int)) = false := decide_eq_false (by omega)
  go_wp2_with fail
  refine (copy_any A bs.length c bs w1 (by omega) ((HB.out.since B1.out).more B1.out.size)).mono ?_
  rintro e w2 ⟨gc, cap, rfl, hcap, hgc, hown, b2⟩
  have HM := Lib.hid (mine_bytes hown HB.out)
  have B2 := Lib.hid (B1.out.trans (b2.mono B1.out.size))
  have HO2 := Lib.hid hown
  have hgc2 : gc < w2.heap.size := (World.ownsRow.lt hown gc rfl).2
  have HG := Lib.hid (And.intro hgc (And.intro hgc2 b2.size))
  clear hown b2 hgc hgc2 hd
  have HTK := Lib.hid (stake_any bs (some ⟨gc, 0, none⟩) cap HM.out (by omega))
  have HIF := Lib.hid (sok_iff HSB.out (show bs.length ≤ 7000 by omega))
  have HNB := Lib.hid hn
  clear HM hn
  go_wp2_with fail
  refine HTK.out.mono ?_
  rintro e w3 h3
  obtain ⟨b3, ka, a, hka, rfl, hav, haz, haN⟩ := stake_one h3
  have B3 := Lib.hid (B2.out.trans (b3.mono B2.out.size))
  have HO3 := Lib.hid (HO2.out.below b3)
  have HZ3 := Lib.hid b3.size
  clear h3 b3 HTK HO2
  have haS : a.Sm := by
    cases hk : ka with
    | true => exact sov_sm HSB.out (by have := HNB.out; omega) (hav hk)
    | false => exact zero_Sm9 (haz hk)
  have HKA := Lib.hid (And.intro hka (And.intro hav (And.intro haz haS)))
  obtain ⟨ev, hev⟩ : ∃ v : Value, v = if ka = true then .nilIface else errV 2 := ⟨_, rfl⟩
  rw [← hev]
  have HEV := Lib.hid hev
  obtain ⟨w4, hw4⟩ : ∃ W, W = w3.alloc (.cells #[.bool a.th, .slice a.D a.dt.length a.cd, .int .i64 a.sq, .slice a.C a.cl.length a.cc] 36) := ⟨_, rfl⟩
  obtain ⟨gp, hgp⟩ : ∃ g, g = w3.heap.size := ⟨_, rfl⟩
  have b4 : Below w3.heap.size w3 w4 := by rw [hw4]; exact below_alloc w3 _
  have k4 : Blk w4 gp 36 #[.bool a.th, .slice a.D a.dt.length a.cd, .int .i64 a.sq, .slice a.C a.cl.length a.cc] := by rw [hw4, hgp]; exact Blk.new w3 _ _
  have HA4 := Lib.hid (And.intro k4 (OA.N.below haN b4))
  have B4 := Lib.hid (B3.out.trans (b4.mono B3.out.size))
  have HO4 := Lib.hid (HO3.out.below b4)
  have HZ4 : Hid (w2.heap.size ≤ w4.heap.size ∧ w2.heap.size ≤ gp) := Lib.hid (by have := HZ3.out; have := b4.size; omega)
  have HW4 := Lib.hid (And.intro hw4 hgp)
  have HDT := Lib.hid (dtake9_any A c bs w4 ((HB.out.since B4.out).more B4.out.size) (by have := HNB.out; omega))
  clear k4 haN b4 hw4 hgp HO3 hka hav haz haS hev
  unfold OA.cs
  go_upto_region 7 with (fail)
  rw [← HW4.out.1, ← HW4.out.2]
  clear HW4
  go_wp2_with fail
  refine HDT.out.mono ?_
  rintro e w5 h5
  obtain ⟨b5, kd, d, hkd, rfl, hdv, hdz, hdR⟩ := dtake_one h5
  obtain rfl : kd = ka := by
    rw [Bool.eq_iff_iff, hkd, HKA.out.1]
    exact HIF.out.1.symm
  have hdS : d.Sm := by
    cases hk : kd with
    | true => exact dov_sm HSB.out (by have := HNB.out; omega) (hdv hk)
    | false => exact zero_Sm9 (hdz hk)
  have hev2 : a.v = d.v := by
    cases hk : kd with
    | true => rw [HKA.out.2.1 hk, hdv hk]; exact HIF.out.2 (HKA.out.1.1 hk)
    | false => rw [HKA.out.2.2.1 hk, hdz hk]
  have HSS := Lib.hid (And.intro HKA.out.2.2.2 (And.intro hdS hev2))
  obtain ⟨w6, hw6⟩ : ∃ W, W = w5.alloc (.cells #[.bool d.th, .slice d.D d.dt.length d.cd, .int .i64 d.sq, .slice d.C d.cl.length d.cc] 25) := ⟨_, rfl⟩
  obtain ⟨gd, hgd⟩ : ∃ g, g = w5.heap.size := ⟨_, rfl⟩
  have b6 : Below w5.heap.size w5 w6 := by rw [hw6]; exact below_alloc w5 _
  have k6 : Blk w6 gd 25 #[.bool d.th, .slice d.D d.dt.length d.cd, .int .i64 d.sq, .slice d.C d.cl.length d.cc] := by rw [hw6, hgd]; exact Blk.new w5 _ _
  have b46 : Below w4.heap.size w4 w6 := b5.trans (b6.mono b5.size)
  have HA6 := Lib.hid (And.intro (HA4.out.1.of (b46.block _ HA4.out.1.lt)) (OA.N.below HA4.out.2 b46))
  have B6 := Lib.hid (B4.out.trans (b46.mono B4.out.size))
  have HO6 := Lib.hid (HO4.out.below b46)
  have HD6 : Hid (Blk w6 gd 25 #[.bool d.th, .slice d.D d.dt.length d.cd, .int .i64 d.sq, .slice d.C d.cl.length d.cc] ∧ w4.heap.size ≤ gd ∧ ∀ W, (∀ k, w4.heap.size ≤ k → k < w6.heap.size → W.heap[k]? = w6.heap[k]?) → d.R W) := Lib.hid ⟨k6, by rw [hgd]; exact b5.size, fun W hW => hdR W fun k h1 h2 => (hW k h1 (Nat.lt_of_lt_of_le h2 b6.size)).trans (b6.block k h2)⟩
  have HW6 := Lib.hid (And.intro hw6 hgd)
  clear h5 b5 hkd hdv hdz hdR hw6 hgd b6 k6 b46 HDT HO4 HA4 hdS hev2 HKA
  unfold OA.cs
  go_upto_region 8 with (fail)
  rw [← HW6.out.1, ← HW6.out.2]
  clear HW6
  go_wp2_with fail
  refine (kept_any A bs.length c gc cap w1.heap.size bs w6 (by have := HNB.out; omega) hcap ((HB.out.since B6.out).more B1.out.size) HO6.out).mono ?_
  rintro e w7 ⟨rfl, b7⟩
  have HA7 := Lib.hid (And.intro (HA6.out.1.of (b7.block _ HA6.out.1.lt)) (OA.N.below HA6.out.2 b7))
  have B7 := Lib.hid (B6.out.trans (b7.mono B6.out.size))
  have HO7 := Lib.hid (HO6.out.below b7)
  have HD7 : Hid (Blk w7 gd 25 #[.bool d.th, .slice d.D d.dt.length d.cd, .int .i64 d.sq, .slice d.C d.cl.length d.cc] ∧ w4.heap.size ≤ gd ∧ ∀ W, (∀ k, w4.heap.size ≤ k → k < w7.heap.size → W.heap[k]? = w7.heap[k]?) → d.R W) := Lib.hid ⟨HD6.out.1.of (b7.block _ HD6.out.1.lt), HD6.out.2.1, fun W hW => HD6.out.2.2 W fun k h1 h2 => (hW k h1 (Nat.lt_of_lt_of_le h2 b7.size)).trans (b7.block k h2)⟩
  clear b7 HA6 HO6 HD6
  go_wp2_with fail
  refine (over_any w7 w1.heap.size (.slice (some ⟨gc, 0, none⟩) bs.length cap) bs.length bs (mine_own HO7.out rfl) HSB.out (by have := HNB.out; omega)).mono ?_
  rintro e w8 ⟨rfl, o8⟩
  have o8' : Only [gc] w7 w8 := o8
  have HA8 : Hid (Blk w8 gp 36 #[.bool a.th, .slice a.D a.dt.length a.cd, .int .i64 a.sq, .slice a.C a.cl.length a.cc] ∧ a.N w8 w2.heap.size) := Lib.hid ⟨HA7.out.1.only o8' (by have := HG.out; have := HZ4.out; simp; omega), OA.N.move9 HA7.out.2 fun k h1 h2 => o8'.block k h2 (by have := HG.out; simp; omega)⟩
  have B8 : Hid (Below w.heap.size w w8) := Lib.hid (B7.out.trans (o8'.below (fun x hx => by simp at hx; have := HG.out.1; have := B1.out.size; omega) B7.out.size))
  have HD8 : Hid (Blk w8 gd 25 #[.bool d.th, .slice d.D d.dt.length d.cd, .int .i64 d.sq, .slice d.C d.cl.length d.cc] ∧ d.R w8) := Lib.hid ⟨HD7.out.1.only o8' (by have := HG.out; have := HZ4.out; have := HD7.out.2.1; simp; omega), HD7.out.2.2 w8 fun k h1 h2 => o8'.block k h2 (by have := HG.out; have := HZ4.out; simp; omega)⟩
  clear o8 o8' HA7 HO7 HD7
  have HA9 : Hid (∀ W, Below w8.heap.size w8 W → Blk W gp 36 #[.bool a.th, .slice a.D a.dt.length a.cd, .int .i64 a.sq, .slice a.C a.cl.length a.cc]) := Lib.hid fun W hW => HA8.out.1.of (hW.block _ HA8.out.1.lt)
  have HD9 : Hid (∀ W, Below w8.heap.size w8 W → Blk W gd 25 #[.bool d.th, .slice d.D d.dt.length d.cd, .int .i64 d.sq, .slice d.C d.cl.length d.cc]) := Lib.hid fun W hW => HD8.out.1.of (hW.block _ HD8.out.1.lt)
  have HPL : Hid (∀ W, Below w8.heap.size w8 W → Calls Try.prog 18 #[.agg #[.bool a.th, .slice a.D a.dt.length a.cd, .int .i64 a.sq, .slice a.C a.cl.length a.cc]] W fun e w' => ∃ q : OA, e = .returned (.agg #[.bool q.th, .slice q.D q.dt.length q.cd, .int .i64 q.sq, .slice q.C q.cl.length q.cc]) ∧ q.v = a.v ∧ q.R w' ∧ q.Sm ∧ Below W.heap.size W w') := Lib.hid fun W hW => (plain_any a (OA.R.since (OA.N.R HA8.out.2) hW) HSS.out.1).mono fun e w' h => by
    obtain ⟨C', c', rfl, h1, h2⟩ := h
    exact ⟨{a with C := C', cc := c'}, rfl, rfl, PlainTo.reads (OA.R.since (OA.N.R HA8.out.2) hW) h1 h2, ⟨HSS.out.1.dt, HSS.out.1.cn, HSS.out.1.cl⟩, h2⟩
  have HDR : Hid (∀ W, Below w8.heap.size w8 W → d.R W) := Lib.hid fun W hW => HD8.out.2.since hW
  have HIS : Hid (∀ W, Below w8.heap.size w8 W → Calls Try.prog 27 #[.iface 58 (.int .i64 2), .int .i64 2] W fun e w' => e = .returned (.bool true) ∧ Below W.heap.size W w') := Lib.hid fun W hW => (is_any 2 2 W).mono fun e w' ⟨h1, h2⟩ => ⟨h1, h2 ▸ Below.refl _ _⟩
  have hev := HEV.out
  clear HEV HA8 HD8
  cases hk : kd with
  | true =>
    rw [hk] at hev
    simp only [if_true] at hev
    subst hev
    clear hk
    go_upto_region 11 with (fail)
    have hS : Below w8.heap.size w8 w8.drew := (Below.refl _ w8).drew
    refine any_beginL (fun W' => Below w8.heap.size w8 W') 99 (by kernel_rfl) ?_
    refine S_take (i := 0) (v := .bool true) rfl rfl (by kernel_rfl) (by kernel_rfl) (by kernel_rfl) (fun _ _ _ h => h) (Or.inl ⟨by rfl, fun W hw => by go_simp⟩) hS ?_
    simp only [Act.put, List.getElem_toArray, List.getElem_cons_succ, List.getElem_cons_zero, List.setIfInBounds_toArray, List.set_cons_zero, List.set_cons_succ]
    refine S_take (i := 1) (v := .nilIface) rfl rfl (by kernel_rfl) (by kernel_rfl) (by kernel_rfl) (fun _ _ _ h => h) (Or.inl ⟨by rfl, fun W hw => by go_simp⟩) hS ?_
    simp only [Act.put, List.getElem_toArray, List.getElem_cons_succ, List.getElem_cons_zero, List.setIfInBounds_toArray, List.set_cons_zero, List.set_cons_succ]
    refine S_take (i := 2) (v := .bool true) rfl rfl (by kernel_rfl) (by kernel_rfl) (by kernel_rfl) (fun _ _ _ h => h) (Or.inl ⟨by rfl, fun W hw => by go_simp⟩) hS ?_
    simp only [Act.put, List.getElem_toArray, List.getElem_cons_succ, List.getElem_cons_zero, List.setIfInBounds_toArray, List.set_cons_zero, List.set_cons_succ]
    refine S_take (i := 3) (v := .bool true) rfl rfl (by kernel_rfl) (by kernel_rfl) (by kernel_rfl) (fun _ _ _ h => h) (Or.inl ⟨by rfl, fun W hw => by go_simp⟩) hS ?_
    simp only [Act.put, List.getElem_toArray, List.getElem_cons_succ, List.getElem_cons_zero, List.setIfInBounds_toArray, List.set_cons_zero, List.set_cons_succ]
    refine S_take (i := 4) (v := .bool true) rfl rfl (by kernel_rfl) (by kernel_rfl) (by kernel_rfl) (fun _ _ _ h => h) (Or.inl ⟨by rfl, fun W hw => by go_simp⟩) hS ?_
    simp only [Act.put, List.getElem_toArray, List.getElem_cons_succ, List.getElem_cons_zero, List.setIfInBounds_toArray, List.set_cons_zero, List.set_cons_succ]
    refine S_take (i := 5) (v := .bool true) rfl rfl (by kernel_rfl) (by kernel_rfl) (by kernel_rfl) (fun _ _ _ h => h) (Or.inl ⟨by rfl, fun W hw => by go_simp⟩) hS ?_
    simp only [Act.put, List.getElem_toArray, List.getElem_cons_succ, List.getElem_cons_zero, List.setIfInBounds_toArray, List.set_cons_zero, List.set_cons_succ]
    refine S_take (i := 6) (v := .bool true) rfl rfl (by kernel_rfl) (by kernel_rfl) (by kernel_rfl) (fun _ _ _ h => h) (Or.inl ⟨by rfl, fun W hw => by go_simp⟩) hS ?_
    simp only [Act.put, List.getElem_toArray, List.getElem_cons_succ, List.getElem_cons_zero, List.setIfInBounds_toArray, List.set_cons_zero, List.set_cons_succ]
    refine S_take (i := 7) (v := undef) rfl rfl (by kernel_rfl) (by kernel_rfl) (by kernel_rfl) (fun _ _ _ h => h) (Or.inr ⟨by rfl, rfl⟩) hS ?_
    simp only [Act.put, List.getElem_toArray, List.getElem_cons_succ, List.getElem_cons_zero, List.setIfInBounds_toArray, List.set_cons_zero, List.set_cons_succ]
    refine S_take (i := 8) (v := undef) rfl rfl (by kernel_rfl) (by kernel_rfl) (by kernel_rfl) (fun _ _ _ h => h) (Or.inr ⟨by rfl, rfl⟩) hS ?_
    simp only [Act.put, List.getElem_toArray, List.getElem_cons_succ, List.getElem_cons_zero, List.setIfInBounds_toArray, List.set_cons_zero, List.set_cons_succ]
    refine S_take (i := 9) (v := .bool true) rfl rfl (by kernel_rfl) (by kernel_rfl) (by kernel_rfl) (fun _ _ _ h => h) (Or.inl ⟨by rfl, fun W hw => by go_simp⟩) hS ?_
    simp only [Act.put, List.getElem_toArray, List.getElem_cons_succ, List.getElem_cons_zero, List.setIfInBounds_toArray, List.set_cons_zero, List.set_cons_succ]
    refine S_take (i := 10) (v := .bool true) rfl rfl (by kernel_rfl) (by kernel_rfl) (by kernel_rfl) (fun _ _ _ h => h) (Or.inl ⟨by rfl, fun W hw => by go_simp⟩) hS ?_
    simp only [Act.put, List.getElem_toArray, List.getElem_cons_succ, List.getElem_cons_zero, List.setIfInBounds_toArray, List.set_cons_zero, List.set_cons_succ]
    refine S_take (i := 11) (v := .bool true) rfl rfl (by kernel_rfl) (by kernel_rfl) (by kernel_rfl) (fun _ _ _ h => h) (Or.inl ⟨by rfl, fun W hw => by go_simp⟩) hS ?_
    simp only [Act.put, List.getElem_toArray, List.getElem_cons_succ, List.getElem_cons_zero, List.setIfInBounds_toArray, List.set_cons_zero, List.set_cons_succ]
    refine S_take (i := 12) (v := .agg #[.bool a.th, .slice a.D a.dt.length a.cd, .int .i64 a.sq, .slice a.C a.cl.length a.cc]) rfl rfl (by kernel_rfl) (by kernel_rfl) (by kernel_rfl) (fun _ _ _ h => h) (Or.inl ⟨by rfl, fun W hw => by have k0 : W.cell? ⟨gp, 0, none⟩ = some (.bool a.th) := (HA9.out W hw).cell 0; have k1 : W.cell? ⟨gp, 1, none⟩ = some (.slice a.D a.dt.length a.cd) := (HA9.out W hw).cell 1; have k2 : W.cell? ⟨gp, 2, none⟩ = some (.int .i64 a.sq) := (HA9.out W hw).cell 2; have k3 : W.cell? ⟨gp, 3, none⟩ = some (.slice a.C a.cl.length a.cc) := (HA9.out W hw).cell 3; go_simp⟩) hS ?_
    simp only [Act.put, List.getElem_toArray, List.getElem_cons_succ, List.getElem_cons_zero, List.setIfInBounds_toArray, List.set_cons_zero, List.set_cons_succ]
    refine S_take (i := 14) (v := .agg #[.bool d.th, .slice d.D d.dt.length d.cd, .int .i64 d.sq, .slice d.C d.cl.length d.cc]) rfl rfl (by kernel_rfl) (by kernel_rfl) (by kernel_rfl) (fun _ _ _ h => h) (Or.inl ⟨by rfl, fun W hw => by have k0 : W.cell? ⟨gd, 0, none⟩ = some (.bool d.th) := (HD9.out W hw).cell 0; have k1 : W.cell? ⟨gd, 1, none⟩ = some (.slice d.D d.dt.length d.cd) := (HD9.out W hw).cell 1; have k2 : W.cell? ⟨gd, 2, none⟩ = some (.int .i64 d.sq) := (HD9.out W hw).cell 2; have k3 : W.cell? ⟨gd, 3, none⟩ = some (.slice d.C d.cl.length d.cc) := (HD9.out W hw).cell 3; go_simp⟩) hS ?_
    simp only [Act.put, List.getElem_toArray, List.getElem_cons_succ, List.getElem_cons_zero, List.setIfInBounds_toArray, List.set_cons_zero, List.set_cons_succ]
    refine L_one (j := 13) (by kernel_rfl) rfl (by rfl) ?_
    simp only [Act.put, List.getElem_toArray, List.getElem_cons_succ, List.getElem_cons_zero, List.setIfInBounds_toArray, List.set_cons_zero, List.set_cons_succ]
    refine wp_called (by go_simp) (HPL.out _ hS) ?_
    rintro e W13 ⟨q, rfl, hqv, hqR, hqS, b⟩
    have hS : Below w8.heap.size w8 W13 := hS.trans (b.mono hS.size)
    clear b
    have HDS : Hid (∀ (W : World) (_h : Below w8.heap.size w8 W), Calls Try.prog 17 #[.agg #[.bool q.th, .slice q.D q.dt.length q.cd, .int .i64 q.sq, .slice q.C q.cl.length q.cc], .agg #[.bool d.th, .slice d.D d.dt.length d.cd, .int .i64 d.sq, .slice d.C d.cl.length d.cc]] W13 fun e w' => e = .returned (.bool true) ∧ Below W13.heap.size W13 w') := Lib.hid fun W _ => rsame_any q d hqR (HDR.out _ hS) (hqv.trans HSS.out.2.2) hqS
    clear hqv hqR hqS
    refine ⟨_, rfl, hS, ?_⟩
    simp only [Act.put, List.getElem_toArray, List.getElem_cons_succ, List.getElem_cons_zero, List.setIfInBounds_toArray, List.set_cons_zero, List.set_cons_succ]
    refine L_one (j := 15) (by kernel_rfl) rfl (by rfl) ?_
    simp only [Act.put, List.getElem_toArray, List.getElem_cons_succ, List.getElem_cons_zero, List.setIfInBounds_toArray, List.set_cons_zero, List.set_cons_succ]
    refine wp_called (by go_simp) (HDS.out _ hS) ?_
    rintro e W15 ⟨rfl, b⟩
    have hS : Below w8.heap.size w8 W15 := hS.trans (b.mono hS.size)
    clear b
    refine ⟨_, rfl, hS, ?_⟩
    simp only [Act.put, List.getElem_toArray, List.getElem_cons_succ, List.getElem_cons_zero, List.setIfInBounds_toArray, List.set_cons_zero, List.set_cons_succ]
    refine S_take (i := 16) (v := .bool true) rfl rfl (by kernel_rfl) (by kernel_rfl) (by kernel_rfl) (fun _ _ _ h => h) (Or.inl ⟨by rfl, fun W hw => by go_simp⟩) hS ?_
    simp only [Act.put, List.getElem_toArray, List.getElem_cons_succ, List.getElem_cons_zero, List.setIfInBounds_toArray, List.set_cons_zero, List.set_cons_succ]
    refine S_take (i := 17) (v := .bool true) rfl rfl (by kernel_rfl) (by kernel_rfl) (by kernel_rfl) (fun _ _ _ h => h) (Or.inl ⟨by rfl, fun W hw => by go_simp⟩) hS ?_
    simp only [Act.put, List.getElem_toArray, List.getElem_cons_succ, List.getElem_cons_zero, List.setIfInBounds_toArray, List.set_cons_zero, List.set_cons_succ]
    refine L_done (by kernel_rfl) ?_
    refine NoPanic.normal ?_
    have HS9 := Lib.hid (B8.out.trans (hS.mono B8.out.size))
    clear hS
    try go_wp2
    go_ret
    exact ⟨rfl, HS9.out⟩
  | false =>
    rw [hk] at hev
    simp only [Bool.false_eq_true, if_false, errV] at hev
    subst hev
    clear hk
    go_upto_region 11 with (fail)
    have hS : Below w8.heap.size w8 w8.drew := (Below.refl _ w8).drew
    refine any_beginL (fun W' => Below w8.heap.size w8 W') 99 (by kernel_rfl) ?_
    refine S_take (i := 0) (v := .bool false) rfl rfl (by kernel_rfl) (by kernel_rfl) (by kernel_rfl) (fun _ _ _ h => h) (Or.inl ⟨by rfl, fun W hw => by go_simp⟩) hS ?_
    simp only [Act.put, List.getElem_toArray, List.getElem_cons_succ, List.getElem_cons_zero, List.setIfInBounds_toArray, List.set_cons_zero, List.set_cons_succ]
    refine S_take (i := 1) (v := .iface 58 (.int .i64 2)) rfl rfl (by kernel_rfl) (by kernel_rfl) (by kernel_rfl) (fun _ _ _ h => h) (Or.inl ⟨by rfl, fun W hw => by go_simp⟩) hS ?_
    simp only [Act.put, List.getElem_toArray, List.getElem_cons_succ, List.getElem_cons_zero, List.setIfInBounds_toArray, List.set_cons_zero, List.set_cons_succ]
    refine S_take (i := 2) (v := .bool false) rfl rfl (by kernel_rfl) (by kernel_rfl) (by kernel_rfl) (fun _ _ _ h => h) (Or.inl ⟨by rfl, fun W hw => by go_simp⟩) hS ?_
    simp only [Act.put, List.getElem_toArray, List.getElem_cons_succ, List.getElem_cons_zero, List.setIfInBounds_toArray, List.set_cons_zero, List.set_cons_succ]
    refine S_take (i := 3) (v := .bool true) rfl rfl (by kernel_rfl) (by kernel_rfl) (by kernel_rfl) (fun _ _ _ h => h) (Or.inl ⟨by rfl, fun W hw => by go_simp⟩) hS ?_
    simp only [Act.put, List.getElem_toArray, List.getElem_cons_succ, List.getElem_cons_zero, List.setIfInBounds_toArray, List.set_cons_zero, List.set_cons_succ]
    refine S_take (i := 4) (v := .bool true) rfl rfl (by kernel_rfl) (by kernel_rfl) (by kernel_rfl) (fun _ _ _ h => h) (Or.inl ⟨by rfl, fun W hw => by go_simp⟩) hS ?_
    simp only [Act.put, List.getElem_toArray, List.getElem_cons_succ, List.getElem_cons_zero, List.setIfInBounds_toArray, List.set_cons_zero, List.set_cons_succ]
    refine S_take (i := 5) (v := .bool false) rfl rfl (by kernel_rfl) (by kernel_rfl) (by kernel_rfl) (fun _ _ _ h => h) (Or.inl ⟨by rfl, fun W hw => by go_simp⟩) hS ?_
    simp only [Act.put, List.getElem_toArray, List.getElem_cons_succ, List.getElem_cons_zero, List.setIfInBounds_toArray, List.set_cons_zero, List.set_cons_succ]
    refine S_take (i := 6) (v := .bool false) rfl rfl (by kernel_rfl) (by kernel_rfl) (by kernel_rfl) (fun _ _ _ h => h) (Or.inl ⟨by rfl, fun W hw => by go_simp⟩) hS ?_
    simp only [Act.put, List.getElem_toArray, List.getElem_cons_succ, List.getElem_cons_zero, List.setIfInBounds_toArray, List.set_cons_zero, List.set_cons_succ]
    refine S_take (i := 7) (v := .iface 58 (.int .i64 2)) rfl rfl (by kernel_rfl) (by kernel_rfl) (by kernel_rfl) (fun _ _ _ h => h) (Or.inl ⟨by rfl, fun W hw => by go_simp⟩) hS ?_
    simp only [Act.put, List.getElem_toArray, List.getElem_cons_succ, List.getElem_cons_zero, List.setIfInBounds_toArray, List.set_cons_zero, List.set_cons_succ]
    refine L_one (j := 8) (by kernel_rfl) rfl (by rfl) ?_
    simp only [Act.put, List.getElem_toArray, List.getElem_cons_succ, List.getElem_cons_zero, List.setIfInBounds_toArray, List.set_cons_zero, List.set_cons_succ]
    refine wp_called (by go_simp) (HIS.out _ hS) ?_
    rintro e W8 ⟨rfl, b⟩
    have hS : Below w8.heap.size w8 W8 := hS.trans (b.mono hS.size)
    clear b
    refine ⟨_, rfl, hS, ?_⟩
    simp only [Act.put, List.getElem_toArray, List.getElem_cons_succ, List.getElem_cons_zero, List.setIfInBounds_toArray, List.set_cons_zero, List.set_cons_succ]
    refine S_take (i := 9) (v := .bool true) rfl rfl (by kernel_rfl) (by kernel_rfl) (by kernel_rfl) (fun _ _ _ h => h) (Or.inl ⟨by rfl, fun W hw => by go_simp⟩) hS ?_
    simp only [Act.put, List.getElem_toArray, List.getElem_cons_succ, List.getElem_cons_zero, List.setIfInBounds_toArray, List.set_cons_zero, List.set_cons_succ]
    refine S_take (i := 10) (v := .bool true) rfl rfl (by kernel_rfl) (by kernel_rfl) (by kernel_rfl) (fun _ _ _ h => h) (Or.inl ⟨by rfl, fun W hw => by go_simp⟩) hS ?_
    simp only [Act.put, List.getElem_toArray, List.getElem_cons_succ, List.getElem_cons_zero, List.setIfInBounds_toArray, List.set_cons_zero, List.set_cons_succ]
    refine S_take (i := 11) (v := .bool true) rfl rfl (by kernel_rfl) (by kernel_rfl) (by kernel_rfl) (fun _ _ _ h => h) (Or.inl ⟨by rfl, fun W hw => by go_simp⟩) hS ?_
    simp only [Act.put, List.getElem_toArray, List.getElem_cons_succ, List.getElem_cons_zero, List.setIfInBounds_toArray, List.set_cons_zero, List.set_cons_succ]
    refine S_take (i := 12) (v := .agg #[.bool a.th, .slice a.D a.dt.length a.cd, .int .i64 a.sq, .slice a.C a.cl.length a.cc]) rfl rfl (by kernel_rfl) (by kernel_rfl) (by kernel_rfl) (fun _ _ _ h => h) (Or.inl ⟨by rfl, fun W hw => by have k0 : W.cell? ⟨gp, 0, none⟩ = some (.bool a.th) := (HA9.out W hw).cell 0; have k1 : W.cell? ⟨gp, 1, none⟩ = some (.slice a.D a.dt.length a.cd) := (HA9.out W hw).cell 1; have k2 : W.cell? ⟨gp, 2, none⟩ = some (.int .i64 a.sq) := (HA9.out W hw).cell 2; have k3 : W.cell? ⟨gp, 3, none⟩ = some (.slice a.C a.cl.length a.cc) := (HA9.out W hw).cell 3; go_simp⟩) hS ?_
    simp only [Act.put, List.getElem_toArray, List.getElem_cons_succ, List.getElem_cons_zero, List.setIfInBounds_toArray, List.set_cons_zero, List.set_cons_succ]
    refine S_take (i := 14) (v := .agg #[.bool d.th, .slice d.D d.dt.length d.cd, .int .i64 d.sq, .slice d.C d.cl.length d.cc]) rfl rfl (by kernel_rfl) (by kernel_rfl) (by kernel_rfl) (fun _ _ _ h => h) (Or.inl ⟨by rfl, fun W hw => by have k0 : W.cell? ⟨gd, 0, none⟩ = some (.bool d.th) := (HD9.out W hw).cell 0; have k1 : W.cell? ⟨gd, 1, none⟩ = some (.slice d.D d.dt.length d.cd) := (HD9.out W hw).cell 1; have k2 : W.cell? ⟨gd, 2, none⟩ = some (.int .i64 d.sq) := (HD9.out W hw).cell 2; have k3 : W.cell? ⟨gd, 3, none⟩ = some (.slice d.C d.cl.length d.cc) := (HD9.out W hw).cell 3; go_simp⟩) hS ?_
    simp only [Act.put, List.getElem_toArray, List.getElem_cons_succ, List.getElem_cons_zero, List.setIfInBounds_toArray, List.set_cons_zero, List.set_cons_succ]
    refine L_one (j := 13) (by kernel_rfl) rfl (by rfl) ?_
    simp only [Act.put, List.getElem_toArray, List.getElem_cons_succ, List.getElem_cons_zero, List.setIfInBounds_toArray, List.set_cons_zero, List.set_cons_succ]
    refine wp_called (by go_simp) (HPL.out _ hS) ?_
    rintro e W13 ⟨q, rfl, hqv, hqR, hqS, b⟩
    have hS : Below w8.heap.size w8 W13 := hS.trans (b.mono hS.size)
    clear b
    have HDS : Hid (∀ (W : World) (_h : Below w8.heap.size w8 W), Calls Try.prog 17 #[.agg #[.bool q.th, .slice q.D q.dt.length q.cd, .int .i64 q.sq, .slice q.C q.cl.length q.cc], .agg #[.bool d.th, .slice d.D d.dt.length d.cd, .int .i64 d.sq, .slice d.C d.cl.length d.cc]] W13 fun e w' => e = .returned (.bool true) ∧ Below W13.heap.size W13 w') := Lib.hid fun W _ => rsame_any q d hqR (HDR.out _ hS) (hqv.trans HSS.out.2.2) hqS
    clear hqv hqR hqS
    refine ⟨_, rfl, hS, ?_⟩
    simp only [Act.put, List.getElem_toArray, List.getElem_cons_succ, List.getElem_cons_zero, List.setIfInBounds_toArray, List.set_cons_zero, List.set_cons_succ]
    refine L_one (j := 15) (by kernel_rfl) rfl (by rfl) ?_
    simp only [Act.put, List.getElem_toArray, List.getElem_cons_succ, List.getElem_cons_zero, List.setIfInBounds_toArray, List.set_cons_zero, List.set_cons_succ]
    refine wp_called (by go_simp) (HDS.out _ hS) ?_
    rintro e W15 ⟨rfl, b⟩
    have hS : Below w8.heap.size w8 W15 := hS.trans (b.mono hS.size)
    clear b
    refine ⟨_, rfl, hS, ?_⟩
    simp only [Act.put, List.getElem_toArray, List.getElem_cons_succ, List.getElem_cons_zero, List.setIfInBounds_toArray, List.set_cons_zero, List.set_cons_succ]
    refine S_take (i := 16) (v := .bool true) rfl rfl (by kernel_rfl) (by kernel_rfl) (by kernel_rfl) (fun _ _ _ h => h) (Or.inl ⟨by rfl, fun W hw => by go_simp⟩) hS ?_
    simp only [Act.put, List.getElem_toArray, List.getElem_cons_succ, List.getElem_cons_zero, List.setIfInBounds_toArray, List.set_cons_zero, List.set_cons_succ]
    refine S_take (i := 17) (v := .bool true) rfl rfl (by kernel_rfl) (by kernel_rfl) (by kernel_rfl) (fun _ _ _ h => h) (Or.inl ⟨by rfl, fun W hw => by go_simp⟩) hS ?_
    simp only [Act.put, List.getElem_toArray, List.getElem_cons_succ, List.getElem_cons_zero, List.setIfInBounds_toArray, List.set_cons_zero, List.set_cons_succ]
    refine L_done (by kernel_rfl) ?_
    refine NoPanic.normal ?_
    have HS9 := Lib.hid (B8.out.trans (hS.mono B8.out.size))
    clear hS
    try go_wp2
    go_ret
    exact ⟨rfl, HS9.out⟩
end Go.Proofs.Yteghbfkkpnlilaa