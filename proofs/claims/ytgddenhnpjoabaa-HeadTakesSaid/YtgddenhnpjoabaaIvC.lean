/-
  The law HeadTakes, walked: for all bytes it returns true and changes nothing that was there. No condition.
-/
import Derived.Test.YtgddenhnpjoabaaEh
import Derived.Test.YtgddenhnpjoabaaIuC
import Derived.Test.YtgddenhnpjoabaaIfC
namespace Go.Proofs.Ytgddenhnpjoabaa
open Go.RowKit Go.BigFrame
set_option linter.unusedSimpArgs false
set_option linter.unusedVariables false
set_option maxRecDepth 100000
set_option maxHeartbeats 16000000 in
theorem headTakes_walk (A : Option Addr) (n c : Nat) (bs : List Nat) (m0 : n ≤ c ∧ c ≤ 9223372036854775807) {w : World} (hb : Bytes w w.heap.size A n bs) :
    Calls Try.prog 4 #[.slice A n c] w fun e w' => e = .returned (.bool true) ∧ Below w.heap.size w w' := by
  obtain rfl : n = bs.length := hb.len.symm
  have HB := Lib.hid hb
  have HSB := Lib.hid hb.2
  clear hb m0
  have hz1 := head_zero
  have hz2 := dhead_zero
  go_enter Try.func4, Try.ntmps4
  go_wp2_with fail
  refine (halive_any w).mono ?_
  rintro e w1 ⟨rfl, b1⟩
  have B1 := Lib.hid b1
  clear b1
  by_cases hn : bs.length ≤ 20000
  rotate_left
  · have hd : decide ((20000 : Int) < (bs.length : Int)) = true := decide_eq_true (by omega)
    go_wp2
    go_ret
    exact ⟨rfl, B1.out⟩
  have hd : decide ((20000 : Int) < (bs.length : Int)) = false := decide_eq_false (by omega)
  go_wp2_with fail
  refine (copy_any A bs.length c bs w1 (by omega) ((HB.out.since B1.out).more B1.out.size)).mono ?_
  rintro e w2 ⟨gc, cap, rfl, hcap, hgc, hown, b2⟩
  have HM := Lib.hid (mine_bytes hown HB.out)
  have B2 := Lib.hid (B1.out.trans (b2.mono B1.out.size))
  have HO2 := Lib.hid hown
  have hgc2 : gc < w2.heap.size := (World.ownsRow.lt hown gc rfl).2
  have HG := Lib.hid (And.intro hgc (And.intro hgc2 b2.size))
  clear hown b2 hgc hgc2 hd
  have HTK := Lib.hid (htake_any (some ⟨gc, 0, none⟩) bs.length cap bs w2 HM.out (by omega) (fun w1 base F p hr hB => thead_any w1 base F p ⟨bs, false⟩ hr hB (by show bs.length ≤ 1000000; omega)) (fun a ha => small_of (n := 20000) (by rw [ha]; exact hdv_small ⟨bs, false⟩ 20000 hn (by omega)) (by omega)))
  have HIF := Lib.hid (dok_iff bs hn)
  have HNB := Lib.hid hn
  clear HM hn
  go_wp2_with fail
  refine HTK.out.mono ?_
  rintro e w3 ⟨b3, h3⟩
  have B3 := Lib.hid (B2.out.trans (b3.mono B2.out.size))
  have HO3 := Lib.hid (HO2.out.below b3)
  have HZ3 := Lib.hid b3.size
  clear b3 HTK HO2
  rcases h3 with ⟨hok, a, rfl, hav, haN⟩ | ⟨hbad, rfl⟩
  · obtain ⟨w4, hw4⟩ : ∃ W, W = w3.alloc (.cells #[.int .i64 a.id, .int .i64 a.vw.size, .int .i64 a.obj, .int .i64 a.seq, .slice a.S a.sn.length a.cs', .bool a.vw.on, .bool a.vw.good, .slice a.vw.M a.vw.row.length a.vw.cm, .string (strOf a.vw.par), .int .i64 a.vw.ps, .int .i64 a.vw.ov, .int .i64 a.ow, .int .i64 a.it, .int .i64 a.tg] 36) := ⟨_, rfl⟩
    obtain ⟨gp, hgp⟩ : ∃ g, g = w3.heap.size := ⟨_, rfl⟩
    have b4 : Below w3.heap.size w3 w4 := by rw [hw4]; exact below_alloc w3 _
    have k4 : Blk w4 gp 36 #[.int .i64 a.id, .int .i64 a.vw.size, .int .i64 a.obj, .int .i64 a.seq, .slice a.S a.sn.length a.cs', .bool a.vw.on, .bool a.vw.good, .slice a.vw.M a.vw.row.length a.vw.cm, .string (strOf a.vw.par), .int .i64 a.vw.ps, .int .i64 a.vw.ov, .int .i64 a.ow, .int .i64 a.it, .int .i64 a.tg] := by rw [hw4, hgp]; exact Blk.new w3 _ _
    have HA4 := Lib.hid (And.intro k4 (haN.below b4))
    have B4 := Lib.hid (B3.out.trans (b4.mono B3.out.size))
    have HO4 := Lib.hid (HO3.out.below b4)
    have HZ4 : Hid (w2.heap.size ≤ w4.heap.size ∧ w2.heap.size ≤ gp) := Lib.hid (by have := HZ3.out; have := b4.size; omega)
    have HOK := Lib.hid (And.intro hok hav)
    have HW4 := Lib.hid (And.intro hw4 hgp)
    have HDT := Lib.hid (dtakehead_any A c bs w4 ((HB.out.since B4.out).more B4.out.size) HNB.out)
    clear k4 haN b4 hok hav hw4 hgp HO3
    unfold HA.cs
    go_upto_region 7 with (fail)
    rw [← HW4.out.1, ← HW4.out.2]
    clear HW4
    go_wp2_with fail
    refine HDT.out.mono ?_
    rintro e w5 ⟨b5, h5⟩
    rcases h5 with ⟨hdok, d, rfl, hdv, hdR⟩ | ⟨hno, rfl⟩
    rotate_left
    · exact absurd (HIF.out.2 HOK.out.1) hno
    obtain ⟨w6, hw6⟩ : ∃ W, W = w5.alloc (.cells #[.int .i64 d.id, .int .i64 d.vw.size, .int .i64 d.obj, .int .i64 d.seq, .slice d.S d.sn.length d.cs', .bool d.vw.on, .bool d.vw.good, .slice d.vw.M d.vw.row.length d.vw.cm, .string (strOf d.vw.par), .int .i64 d.vw.ps, .int .i64 d.vw.ov, .int .i64 d.ow, .int .i64 d.it, .int .i64 d.tg] 29) := ⟨_, rfl⟩
    obtain ⟨gd, hgd⟩ : ∃ g, g = w5.heap.size := ⟨_, rfl⟩
    have b6 : Below w5.heap.size w5 w6 := by rw [hw6]; exact below_alloc w5 _
    have k6 : Blk w6 gd 29 #[.int .i64 d.id, .int .i64 d.vw.size, .int .i64 d.obj, .int .i64 d.seq, .slice d.S d.sn.length d.cs', .bool d.vw.on, .bool d.vw.good, .slice d.vw.M d.vw.row.length d.vw.cm, .string (strOf d.vw.par), .int .i64 d.vw.ps, .int .i64 d.vw.ov, .int .i64 d.ow, .int .i64 d.it, .int .i64 d.tg] := by rw [hw6, hgd]; exact Blk.new w5 _ _
    have b46 : Below w4.heap.size w4 w6 := b5.trans (b6.mono b5.size)
    have HA6 := Lib.hid (And.intro (HA4.out.1.of (b46.block _ HA4.out.1.lt)) (HA4.out.2.below b46))
    have B6 := Lib.hid (B4.out.trans (b46.mono B4.out.size))
    have HO6 := Lib.hid (HO4.out.below b46)
    have HD6 : Hid (Blk w6 gd 29 #[.int .i64 d.id, .int .i64 d.vw.size, .int .i64 d.obj, .int .i64 d.seq, .slice d.S d.sn.length d.cs', .bool d.vw.on, .bool d.vw.good, .slice d.vw.M d.vw.row.length d.vw.cm, .string (strOf d.vw.par), .int .i64 d.vw.ps, .int .i64 d.vw.ov, .int .i64 d.ow, .int .i64 d.it, .int .i64 d.tg] ∧ w4.heap.size ≤ gd ∧ d.v = (⟨bs, false⟩ : RD).ddv ∧ ∀ W, (∀ k, w4.heap.size ≤ k → k < w6.heap.size → W.heap[k]? = w6.heap[k]?) → d.R SA.dcells W) := Lib.hid ⟨k6, by rw [hgd]; exact b5.size, hdv, fun W hW => hdR W fun k h1 h2 => (hW k h1 (Nat.lt_of_lt_of_le h2 b6.size)).trans (b6.block k h2)⟩
    have HW6 := Lib.hid (And.intro hw6 hgd)
    clear b5 hdok hdv hdR hw6 hgd b6 k6 b46 HDT HO4 HA4
    unfold HA.cs
    go_upto_region 8 with (fail)
    rw [← HW6.out.1, ← HW6.out.2]
    clear HW6
    go_wp2_with fail
    refine (kept_any A bs.length c gc cap w1.heap.size bs w6 (by have := HNB.out; omega) hcap ((HB.out.since B6.out).more B1.out.size) HO6.out).mono ?_
    rintro e w7 ⟨rfl, b7⟩
    have HA7 := Lib.hid (And.intro (HA6.out.1.of (b7.block _ HA6.out.1.lt)) (HA6.out.2.below b7))
    have B7 := Lib.hid (B6.out.trans (b7.mono B6.out.size))
    have HO7 := Lib.hid (HO6.out.below b7)
    have HD7 : Hid (Blk w7 gd 29 #[.int .i64 d.id, .int .i64 d.vw.size, .int .i64 d.obj, .int .i64 d.seq, .slice d.S d.sn.length d.cs', .bool d.vw.on, .bool d.vw.good, .slice d.vw.M d.vw.row.length d.vw.cm, .string (strOf d.vw.par), .int .i64 d.vw.ps, .int .i64 d.vw.ov, .int .i64 d.ow, .int .i64 d.it, .int .i64 d.tg] ∧ w4.heap.size ≤ gd ∧ d.v = (⟨bs, false⟩ : RD).ddv ∧ ∀ W, (∀ k, w4.heap.size ≤ k → k < w7.heap.size → W.heap[k]? = w7.heap[k]?) → d.R SA.dcells W) := Lib.hid ⟨HD6.out.1.of (b7.block _ HD6.out.1.lt), HD6.out.2.1, HD6.out.2.2.1, fun W hW => HD6.out.2.2.2 W fun k h1 h2 => (hW k h1 (Nat.lt_of_lt_of_le h2 b7.size)).trans (b7.block k h2)⟩
    have HZ7 : Hid (w2.heap.size ≤ w7.heap.size ∧ w4.heap.size ≤ w7.heap.size) := Lib.hid (by have := HZ4.out; have h1 := b7.size; have h2 := HD6.out.1.lt; have h3 := HD6.out.2.1; omega)
    clear b7 HA6 HO6 HD6
    go_wp2_with fail
    refine (over_any w7 w1.heap.size (.slice (some ⟨gc, 0, none⟩) bs.length cap) bs.length bs (mine_own HO7.out rfl) HSB.out (by have := HNB.out; omega)).mono ?_
    rintro e w8 ⟨rfl, o8⟩
    have o8' : Only [gc] w7 w8 := o8
    have HA8 : Hid (Blk w8 gp 36 #[.int .i64 a.id, .int .i64 a.vw.size, .int .i64 a.obj, .int .i64 a.seq, .slice a.S a.sn.length a.cs', .bool a.vw.on, .bool a.vw.good, .slice a.vw.M a.vw.row.length a.vw.cm, .string (strOf a.vw.par), .int .i64 a.vw.ps, .int .i64 a.vw.ov, .int .i64 a.ow, .int .i64 a.it, .int .i64 a.tg] ∧ a.N w8 w2.heap.size []) := Lib.hid ⟨HA7.out.1.only o8' (by have := HG.out; have := HZ4.out; simp; omega), HA7.out.2.move fun k h1 h2 => o8'.block k h2 (by have := HG.out; simp; omega)⟩
    have B8 : Hid (Below w.heap.size w w8) := Lib.hid (B7.out.trans (o8'.below (fun x hx => by simp at hx; have := HG.out.1; have := B1.out.size; omega) B7.out.size))
    have HD8 : Hid (Blk w8 gd 29 #[.int .i64 d.id, .int .i64 d.vw.size, .int .i64 d.obj, .int .i64 d.seq, .slice d.S d.sn.length d.cs', .bool d.vw.on, .bool d.vw.good, .slice d.vw.M d.vw.row.length d.vw.cm, .string (strOf d.vw.par), .int .i64 d.vw.ps, .int .i64 d.vw.ov, .int .i64 d.ow, .int .i64 d.it, .int .i64 d.tg] ∧ d.v = (⟨bs, false⟩ : RD).ddv ∧ d.R SA.dcells w8) := Lib.hid ⟨HD7.out.1.only o8' (by have := HG.out; have := HZ4.out; have := HD7.out.2.1; simp; omega), HD7.out.2.2.1, HD7.out.2.2.2 w8 fun k h1 h2 => o8'.block k h2 (by have := HG.out; have := HZ4.out; simp; omega)⟩
    clear o8 o8' HA7 HO7 HD7
    have K8 := HA8.out.1
    have haS : a.Sm := small_of (n := 20000) (by rw [HOK.out.2]; exact hdv_small ⟨bs, false⟩ 20000 HNB.out (by omega)) (by omega)
    have HSA := Lib.hid haS
    have hdS : d.Sm := small_of (n := 20000) (by rw [HD8.out.2.1]; exact ddv_small ⟨bs, false⟩ 20000 HNB.out) (by omega)
    have HSD := Lib.hid hdS
    have HPU := Lib.hid (hput_any (w := w8) a HA8.out.2.R haS)
    have HEV : Hid (a.v = d.v) := Lib.hid (by rw [HOK.out.2, HD8.out.2.1]; exact (HIF.out.1 (HIF.out.2 HOK.out.1)).2)
    clear haS hdS
    unfold HA.cs at HPU
    go_wp2_with (have _h := K8; refine wpList_loadq rfl 36 (.tmp 4) rfl (gp) [.int .i64 a.id, .int .i64 a.vw.size, .int .i64 a.obj, .int .i64 a.seq, .slice a.S a.sn.length a.cs', .bool a.vw.on, .bool a.vw.good, .slice a.vw.M a.vw.row.length a.vw.cm, .string (strOf a.vw.par), .int .i64 a.vw.ps, .int .i64 a.vw.ov, .int .i64 a.ow, .int .i64 a.it, .int .i64 a.tg] _ rfl K8 Try.underlying36 rfl (by kernel_rfl) ?_; clear _h K8)
    refine HPU.out.mono ?_
    rintro e w9 ⟨b9, h9⟩
    rcases h9 with ⟨hB, p, rfl, hp⟩ | ⟨hB, rfl⟩
    rotate_left
    · rw [HOK.out.2, HOK.out.1.1] at hB; cases hB
    obtain ⟨A9, c9, rfl⟩ := own_form hp
    have hpe : a.v.put = bs := by rw [HOK.out.2]; exact HOK.out.1.2
    rw [hpe] at hp ⊢
    have HA9 : Hid (∀ W, Below w9.heap.size w9 W → Blk W gp 36 #[.int .i64 a.id, .int .i64 a.vw.size, .int .i64 a.obj, .int .i64 a.seq, .slice a.S a.sn.length a.cs', .bool a.vw.on, .bool a.vw.good, .slice a.vw.M a.vw.row.length a.vw.cm, .string (strOf a.vw.par), .int .i64 a.vw.ps, .int .i64 a.vw.ov, .int .i64 a.ow, .int .i64 a.it, .int .i64 a.tg]) := Lib.hid fun W hW => (HA8.out.1.of (b9.block _ HA8.out.1.lt)).of (hW.block _ (Nat.lt_of_lt_of_le HA8.out.1.lt b9.size))
    have HD9 : Hid (∀ W, Below w9.heap.size w9 W → Blk W gd 29 #[.int .i64 d.id, .int .i64 d.vw.size, .int .i64 d.obj, .int .i64 d.seq, .slice d.S d.sn.length d.cs', .bool d.vw.on, .bool d.vw.good, .slice d.vw.M d.vw.row.length d.vw.cm, .string (strOf d.vw.par), .int .i64 d.vw.ps, .int .i64 d.vw.ov, .int .i64 d.ow, .int .i64 d.it, .int .i64 d.tg]) := Lib.hid fun W hW => (HD8.out.1.of (b9.block _ HD8.out.1.lt)).of (hW.block _ (Nat.lt_of_lt_of_le HD8.out.1.lt b9.size))
    have HPL : Hid (∀ W, Below w9.heap.size w9 W → Calls Try.prog 15 #[.agg #[.int .i64 a.id, .int .i64 a.vw.size, .int .i64 a.obj, .int .i64 a.seq, .slice a.S a.sn.length a.cs', .bool a.vw.on, .bool a.vw.good, .slice a.vw.M a.vw.row.length a.vw.cm, .string (strOf a.vw.par), .int .i64 a.vw.ps, .int .i64 a.vw.ov, .int .i64 a.ow, .int .i64 a.it, .int .i64 a.tg]] W fun e w' => ∃ q : HA, e = .returned (.agg q.cs) ∧ q.v = a.v ∧ q.R SA.dcells w' ∧ q.sn = a.sn ∧ q.vw = a.vw ∧ Below W.heap.size W w') := Lib.hid fun W hW => hplain_any a W ((HA8.out.2.R.since b9).since hW) HSA.out
    have HDR : Hid (∀ W, Below w9.heap.size w9 W → d.R SA.dcells W) := Lib.hid fun W hW => (HD8.out.2.2.since b9).since hW
    have HP9 : Hid (∀ W, Below w9.heap.size w9 W → Calls Try.prog 18 #[.slice A9 bs.length c9, .slice A bs.length c] W fun e w' => e = .returned (.bool true) ∧ Below W.heap.size W w') := Lib.hid fun W hW => (same_any A9 A bs.length bs.length c9 c _ _ bs bs W ((hp.below hW).bytes HSB.out) ((HB.out.since (B8.out.trans ((b9.trans (hW.mono b9.size)).mono B8.out.size))))).mono fun e w' ⟨r, h1, h2, h3⟩ => ⟨by rw [h1, h2 rfl], h3 ▸ Below.refl _ _⟩
    have B9 : Hid (Below w.heap.size w w9) := Lib.hid (B8.out.trans (b9.mono B8.out.size))
    clear b9 hB hp hpe HPU
    go_upto_region 14 with (fail)
    have hS : Below w9.heap.size w9 w9.drew := (Below.refl _ w9).drew
    refine any_beginL (fun W' => Below w9.heap.size w9 W') 99 (by kernel_rfl) ?_
    refine S_take (i := 0) (v := .nilIface) rfl rfl (by kernel_rfl) (by kernel_rfl) (by kernel_rfl) (fun _ _ _ h => h) (Or.inl ⟨by rfl, fun W hw => by go_simp⟩) hS ?_
    simp only [Act.put, List.getElem_toArray, List.getElem_cons_succ, List.getElem_cons_zero, List.setIfInBounds_toArray, List.set_cons_zero, List.set_cons_succ]
    refine S_take (i := 1) (v := .bool true) rfl rfl (by kernel_rfl) (by kernel_rfl) (by kernel_rfl) (fun _ _ _ h => h) (Or.inl ⟨by rfl, fun W hw => by go_simp⟩) hS ?_
    simp only [Act.put, List.getElem_toArray, List.getElem_cons_succ, List.getElem_cons_zero, List.setIfInBounds_toArray, List.set_cons_zero, List.set_cons_succ]
    refine S_take (i := 2) (v := .bool true) rfl rfl (by kernel_rfl) (by kernel_rfl) (by kernel_rfl) (fun _ _ _ h => h) (Or.inl ⟨by rfl, fun W hw => by go_simp⟩) hS ?_
    simp only [Act.put, List.getElem_toArray, List.getElem_cons_succ, List.getElem_cons_zero, List.setIfInBounds_toArray, List.set_cons_zero, List.set_cons_succ]
    refine S_take (i := 3) (v := .nilIface) rfl rfl (by kernel_rfl) (by kernel_rfl) (by kernel_rfl) (fun _ _ _ h => h) (Or.inl ⟨by rfl, fun W hw => by go_simp⟩) hS ?_
    simp only [Act.put, List.getElem_toArray, List.getElem_cons_succ, List.getElem_cons_zero, List.setIfInBounds_toArray, List.set_cons_zero, List.set_cons_succ]
    refine S_take (i := 4) (v := .bool true) rfl rfl (by kernel_rfl) (by kernel_rfl) (by kernel_rfl) (fun _ _ _ h => h) (Or.inl ⟨by rfl, fun W hw => by go_simp⟩) hS ?_
    simp only [Act.put, List.getElem_toArray, List.getElem_cons_succ, List.getElem_cons_zero, List.setIfInBounds_toArray, List.set_cons_zero, List.set_cons_succ]
    refine S_take (i := 5) (v := .bool true) rfl rfl (by kernel_rfl) (by kernel_rfl) (by kernel_rfl) (fun _ _ _ h => h) (Or.inl ⟨by rfl, fun W hw => by go_simp⟩) hS ?_
    simp only [Act.put, List.getElem_toArray, List.getElem_cons_succ, List.getElem_cons_zero, List.setIfInBounds_toArray, List.set_cons_zero, List.set_cons_succ]
    refine S_take (i := 6) (v := .bool true) rfl rfl (by kernel_rfl) (by kernel_rfl) (by kernel_rfl) (fun _ _ _ h => h) (Or.inl ⟨by rfl, fun W hw => by go_simp⟩) hS ?_
    simp only [Act.put, List.getElem_toArray, List.getElem_cons_succ, List.getElem_cons_zero, List.setIfInBounds_toArray, List.set_cons_zero, List.set_cons_succ]
    refine S_take (i := 7) (v := .agg #[.int .i64 a.id, .int .i64 a.vw.size, .int .i64 a.obj, .int .i64 a.seq, .slice a.S a.sn.length a.cs', .bool a.vw.on, .bool a.vw.good, .slice a.vw.M a.vw.row.length a.vw.cm, .string (strOf a.vw.par), .int .i64 a.vw.ps, .int .i64 a.vw.ov, .int .i64 a.ow, .int .i64 a.it, .int .i64 a.tg]) rfl rfl (by kernel_rfl) (by kernel_rfl) (by kernel_rfl) (fun _ _ _ h => h) (Or.inl ⟨by rfl, fun W hw => by have k0 : W.cell? ⟨gp, 0, none⟩ = some (.int .i64 a.id) := (HA9.out W hw).cell 0; have k1 : W.cell? ⟨gp, 1, none⟩ = some (.int .i64 a.vw.size) := (HA9.out W hw).cell 1; have k2 : W.cell? ⟨gp, 2, none⟩ = some (.int .i64 a.obj) := (HA9.out W hw).cell 2; have k3 : W.cell? ⟨gp, 3, none⟩ = some (.int .i64 a.seq) := (HA9.out W hw).cell 3; have k4 : W.cell? ⟨gp, 4, none⟩ = some (.slice a.S a.sn.length a.cs') := (HA9.out W hw).cell 4; have k5 : W.cell? ⟨gp, 5, none⟩ = some (.bool a.vw.on) := (HA9.out W hw).cell 5; have k6 : W.cell? ⟨gp, 6, none⟩ = some (.bool a.vw.good) := (HA9.out W hw).cell 6; have k7 : W.cell? ⟨gp, 7, none⟩ = some (.slice a.vw.M a.vw.row.length a.vw.cm) := (HA9.out W hw).cell 7; have k8 : W.cell? ⟨gp, 8, none⟩ = some (.string (strOf a.vw.par)) := (HA9.out W hw).cell 8; have k9 : W.cell? ⟨gp, 9, none⟩ = some (.int .i64 a.vw.ps) := (HA9.out W hw).cell 9; have k10 : W.cell? ⟨gp, 10, none⟩ = some (.int .i64 a.vw.ov) := (HA9.out W hw).cell 10; have k11 : W.cell? ⟨gp, 11, none⟩ = some (.int .i64 a.ow) := (HA9.out W hw).cell 11; have k12 : W.cell? ⟨gp, 12, none⟩ = some (.int .i64 a.it) := (HA9.out W hw).cell 12; have k13 : W.cell? ⟨gp, 13, none⟩ = some (.int .i64 a.tg) := (HA9.out W hw).cell 13; go_simp⟩) hS ?_
    simp only [Act.put, List.getElem_toArray, List.getElem_cons_succ, List.getElem_cons_zero, List.setIfInBounds_toArray, List.set_cons_zero, List.set_cons_succ]
    refine S_take (i := 9) (v := .agg #[.int .i64 d.id, .int .i64 d.vw.size, .int .i64 d.obj, .int .i64 d.seq, .slice d.S d.sn.length d.cs', .bool d.vw.on, .bool d.vw.good, .slice d.vw.M d.vw.row.length d.vw.cm, .string (strOf d.vw.par), .int .i64 d.vw.ps, .int .i64 d.vw.ov, .int .i64 d.ow, .int .i64 d.it, .int .i64 d.tg]) rfl rfl (by kernel_rfl) (by kernel_rfl) (by kernel_rfl) (fun _ _ _ h => h) (Or.inl ⟨by rfl, fun W hw => by have k0 : W.cell? ⟨gd, 0, none⟩ = some (.int .i64 d.id) := (HD9.out W hw).cell 0; have k1 : W.cell? ⟨gd, 1, none⟩ = some (.int .i64 d.vw.size) := (HD9.out W hw).cell 1; have k2 : W.cell? ⟨gd, 2, none⟩ = some (.int .i64 d.obj) := (HD9.out W hw).cell 2; have k3 : W.cell? ⟨gd, 3, none⟩ = some (.int .i64 d.seq) := (HD9.out W hw).cell 3; have k4 : W.cell? ⟨gd, 4, none⟩ = some (.slice d.S d.sn.length d.cs') := (HD9.out W hw).cell 4; have k5 : W.cell? ⟨gd, 5, none⟩ = some (.bool d.vw.on) := (HD9.out W hw).cell 5; have k6 : W.cell? ⟨gd, 6, none⟩ = some (.bool d.vw.good) := (HD9.out W hw).cell 6; have k7 : W.cell? ⟨gd, 7, none⟩ = some (.slice d.vw.M d.vw.row.length d.vw.cm) := (HD9.out W hw).cell 7; have k8 : W.cell? ⟨gd, 8, none⟩ = some (.string (strOf d.vw.par)) := (HD9.out W hw).cell 8; have k9 : W.cell? ⟨gd, 9, none⟩ = some (.int .i64 d.vw.ps) := (HD9.out W hw).cell 9; have k10 : W.cell? ⟨gd, 10, none⟩ = some (.int .i64 d.vw.ov) := (HD9.out W hw).cell 10; have k11 : W.cell? ⟨gd, 11, none⟩ = some (.int .i64 d.ow) := (HD9.out W hw).cell 11; have k12 : W.cell? ⟨gd, 12, none⟩ = some (.int .i64 d.it) := (HD9.out W hw).cell 12; have k13 : W.cell? ⟨gd, 13, none⟩ = some (.int .i64 d.tg) := (HD9.out W hw).cell 13; go_simp⟩) hS ?_
    simp only [Act.put, List.getElem_toArray, List.getElem_cons_succ, List.getElem_cons_zero, List.setIfInBounds_toArray, List.set_cons_zero, List.set_cons_succ]
    refine L_one (j := 8) (by kernel_rfl) rfl (by rfl) ?_
    simp only [Act.put, List.getElem_toArray, List.getElem_cons_succ, List.getElem_cons_zero, List.setIfInBounds_toArray, List.set_cons_zero, List.set_cons_succ]
    refine wp_called (by go_simp) (HPL.out _ hS) ?_
    rintro e W8 ⟨q, rfl, hqv, hqR, hqs, hqw, b⟩
    have hS : Below w9.heap.size w9 W8 := hS.trans (b.mono hS.size)
    clear b
    have hqS : q.Sm := small_of (n := 20000) (by rw [hqv, HOK.out.2]; exact hdv_small ⟨bs, false⟩ 20000 HNB.out (by omega)) (by omega)
    have HDS : Hid (∀ (W : World) (_h : Below w9.heap.size w9 W), Calls Try.prog 14 #[.agg q.cs, .agg #[.int .i64 d.id, .int .i64 d.vw.size, .int .i64 d.obj, .int .i64 d.seq, .slice d.S d.sn.length d.cs', .bool d.vw.on, .bool d.vw.good, .slice d.vw.M d.vw.row.length d.vw.cm, .string (strOf d.vw.par), .int .i64 d.vw.ps, .int .i64 d.vw.ov, .int .i64 d.ow, .int .i64 d.it, .int .i64 d.tg]] W8 fun e w' => e = .returned (.bool true) ∧ Below W8.heap.size W8 w') := Lib.hid fun W _ => (dsame_any q d W8 hqR (HDR.out _ hS) hqS HSD.out).mono fun e w' ⟨r, h1, h2, h3⟩ => ⟨by rw [h1, h2.2 (hqv.trans HEV.out)], h3⟩
    clear hqR hqs hqw hqS
    refine ⟨_, rfl, hS, ?_⟩
    simp only [Act.put, List.getElem_toArray, List.getElem_cons_succ, List.getElem_cons_zero, List.setIfInBounds_toArray, List.set_cons_zero, List.set_cons_succ]
    refine L_one (j := 10) (by kernel_rfl) rfl (by rfl) ?_
    simp only [Act.put, List.getElem_toArray, List.getElem_cons_succ, List.getElem_cons_zero, List.setIfInBounds_toArray, List.set_cons_zero, List.set_cons_succ]
    refine wp_called (by go_simp) (HDS.out _ hS) ?_
    rintro e W10 ⟨rfl, b⟩
    have hS : Below w9.heap.size w9 W10 := hS.trans (b.mono hS.size)
    clear b
    refine ⟨_, rfl, hS, ?_⟩
    simp only [Act.put, List.getElem_toArray, List.getElem_cons_succ, List.getElem_cons_zero, List.setIfInBounds_toArray, List.set_cons_zero, List.set_cons_succ]
    refine S_take (i := 11) (v := .bool true) rfl rfl (by kernel_rfl) (by kernel_rfl) (by kernel_rfl) (fun _ _ _ h => h) (Or.inl ⟨by rfl, fun W hw => by go_simp⟩) hS ?_
    simp only [Act.put, List.getElem_toArray, List.getElem_cons_succ, List.getElem_cons_zero, List.setIfInBounds_toArray, List.set_cons_zero, List.set_cons_succ]
    refine S_take (i := 12) (v := .bool true) rfl rfl (by kernel_rfl) (by kernel_rfl) (by kernel_rfl) (fun _ _ _ h => h) (Or.inl ⟨by rfl, fun W hw => by go_simp⟩) hS ?_
    simp only [Act.put, List.getElem_toArray, List.getElem_cons_succ, List.getElem_cons_zero, List.setIfInBounds_toArray, List.set_cons_zero, List.set_cons_succ]
    refine S_take (i := 13) (v := .slice A9 bs.length c9) rfl rfl (by kernel_rfl) (by kernel_rfl) (by kernel_rfl) (fun _ _ _ h => h) (Or.inl ⟨by rfl, fun W hw => by go_simp⟩) hS ?_
    simp only [Act.put, List.getElem_toArray, List.getElem_cons_succ, List.getElem_cons_zero, List.setIfInBounds_toArray, List.set_cons_zero, List.set_cons_succ]
    refine S_take (i := 14) (v := .slice A bs.length c) rfl rfl (by kernel_rfl) (by kernel_rfl) (by kernel_rfl) (fun _ _ _ h => h) (Or.inl ⟨by rfl, fun W hw => by go_simp⟩) hS ?_
    simp only [Act.put, List.getElem_toArray, List.getElem_cons_succ, List.getElem_cons_zero, List.setIfInBounds_toArray, List.set_cons_zero, List.set_cons_succ]
    refine L_one (j := 15) (by kernel_rfl) rfl (by rfl) ?_
    simp only [Act.put, List.getElem_toArray, List.getElem_cons_succ, List.getElem_cons_zero, List.setIfInBounds_toArray, List.set_cons_zero, List.set_cons_succ]
    refine wp_called (by go_simp) (HP9.out _ hS) ?_
    rintro e W15 ⟨rfl, b⟩
    have hS : Below w9.heap.size w9 W15 := hS.trans (b.mono hS.size)
    clear b
    refine ⟨_, rfl, hS, ?_⟩
    simp only [Act.put, List.getElem_toArray, List.getElem_cons_succ, List.getElem_cons_zero, List.setIfInBounds_toArray, List.set_cons_zero, List.set_cons_succ]
    refine S_take (i := 16) (v := .bool true) rfl rfl (by kernel_rfl) (by kernel_rfl) (by kernel_rfl) (fun _ _ _ h => h) (Or.inl ⟨by rfl, fun W hw => by go_simp⟩) hS ?_
    simp only [Act.put, List.getElem_toArray, List.getElem_cons_succ, List.getElem_cons_zero, List.setIfInBounds_toArray, List.set_cons_zero, List.set_cons_succ]
    refine S_take (i := 17) (v := .bool true) rfl rfl (by kernel_rfl) (by kernel_rfl) (by kernel_rfl) (fun _ _ _ h => h) (Or.inl ⟨by rfl, fun W hw => by go_simp⟩) hS ?_
    simp only [Act.put, List.getElem_toArray, List.getElem_cons_succ, List.getElem_cons_zero, List.setIfInBounds_toArray, List.set_cons_zero, List.set_cons_succ]
    refine L_done (by kernel_rfl) ?_
    refine NoPanic.normal ?_
    have HS9 := Lib.hid (B9.out.trans (hS.mono B9.out.size))
    clear hS
    try go_wp2
    go_ret
    exact ⟨rfl, HS9.out⟩
  · obtain ⟨w4, hw4⟩ : ∃ W, W = w3.alloc (.cells #[.int .i64 0, .int .i64 0, .int .i64 0, .int .i64 0, .slice none 0 0, .bool false, .bool false, .slice none 0 0, .string ⟨#[]⟩, .int .i64 0, .int .i64 0, .int .i64 0, .int .i64 0, .int .i64 0] 36) := ⟨_, rfl⟩
    have b4 : Below w3.heap.size w3 w4 := by rw [hw4]; exact below_alloc w3 _
    have B4 := Lib.hid (B3.out.trans (b4.mono B3.out.size))
    have HO4 := Lib.hid (HO3.out.below b4)
    have HBAD := Lib.hid hbad
    have HW4 := Lib.hid hw4
    have HDT := Lib.hid (dtakehead_any A c bs w4 ((HB.out.since B4.out).more B4.out.size) HNB.out)
    clear b4 hbad hw4 HO3
    simp only [errV]
    go_upto_region 7 with (fail)
    rw [← HW4.out]
    clear HW4
    go_wp2_with fail
    refine HDT.out.mono ?_
    rintro e w5 ⟨b5, h5⟩
    rcases h5 with ⟨hdok, d, rfl, hdv, hdR⟩ | ⟨hno, rfl⟩
    · exact absurd (HIF.out.1 hdok).1 HBAD.out
    obtain ⟨w6, hw6⟩ : ∃ W, W = w5.alloc (.cells #[.int .i64 0, .int .i64 0, .int .i64 0, .int .i64 0, .slice none 0 0, .bool false, .bool false, .slice none 0 0, .string ⟨#[]⟩, .int .i64 0, .int .i64 0, .int .i64 0, .int .i64 0, .int .i64 0] 29) := ⟨_, rfl⟩
    have b6 : Below w5.heap.size w5 w6 := by rw [hw6]; exact below_alloc w5 _
    have b46 : Below w4.heap.size w4 w6 := b5.trans (b6.mono b5.size)
    have B6 := Lib.hid (B4.out.trans (b46.mono B4.out.size))
    have HO6 := Lib.hid (HO4.out.below b46)
    have HW6 := Lib.hid hw6
    clear b5 hno hw6 b6 b46 HDT HO4
    go_upto_region 8 with (fail)
    rw [← HW6.out]
    clear HW6
    go_wp2_with fail
    refine (kept_any A bs.length c gc cap w1.heap.size bs w6 (by have := HNB.out; omega) hcap ((HB.out.since B6.out).more B1.out.size) HO6.out).mono ?_
    rintro e w7 ⟨rfl, b7⟩
    have B7 := Lib.hid (B6.out.trans (b7.mono B6.out.size))
    have HO7 := Lib.hid (HO6.out.below b7)
    clear b7 HO6
    go_wp2_with fail
    refine (over_any w7 w1.heap.size (.slice (some ⟨gc, 0, none⟩) bs.length cap) bs.length bs (mine_own HO7.out rfl) HSB.out (by have := HNB.out; omega)).mono ?_
    rintro e w8 ⟨rfl, o8⟩
    have o8' : Only [gc] w7 w8 := o8
    have B8 : Hid (Below w.heap.size w w8) := Lib.hid (B7.out.trans (o8'.below (fun x hx => by simp at hx; have := HG.out.1; have := B1.out.size; omega) B7.out.size))
    have HI := Lib.hid (is_any 2 2 w8)
    simp only [errV] at HI
    clear o8 o8' HO7
    go_wp2_with fail
    refine HI.out.mono ?_
    rintro e w9 ⟨he, hw⟩
    subst he
    subst hw
    go_wp2
    go_ret
    exact ⟨rfl, B8.out⟩
end Go.Proofs.Ytgddenhnpjoabaa
