/-
 An operation of a pool that lasts, on a disk that isn't armed. Conditions: all lies where it is said to; small numbers.
-/
import Derived.Test.YtajajlbeiikcmaaGreatDoorZi
import Derived.RangeFuncBox
import Derived.RangeFuncGives
import Derived.Lib.SlBytesConst
namespace Go.Proofs.YtajajlbeiikcmaaGreatDoor
set_option linter.unusedSimpArgs false
set_option linter.unusedVariables false
set_option maxRecDepth 100000
section
open Go.RowKit Go.BigFrame
theorem isdown4 (w : World) : Calls Tryz.prog 110 #[errV 4] w fun e w' => e = .returned (.bool false) /\ w = w' := by
 have hta : ∀ (n : Int) (w : World), (Instr.typeAssert (.iface 46 (.int .i64 n)) 28 46 true).run Tryz.prog w = .ok (.tuple #[.int .i64 n, .bool true]) w := fun n w => by kernel_rfl
 simp only [errV]
 go_enter Tryz.func110, Tryz.ntmps110
 go_wp2
 go_ret
 exact ⟨rfl, rfl⟩
theorem xN5 {n : Nat} {J : JS} {st tx : List Nat} (hb : J.b = false) : (noteJ n J st tx).2 = 0 ∨ (noteJ n J st tx).2 = 4 := by
 have h1 : ∀ (K : JS) (t : List Nat), K.b = false -> (appJ n K t).2 = 0 ∨ (appJ n K t).2 = 4 := fun K t hK => by
  unfold appJ
  split
  ·exact .inr rfl
  ·split
   ·rename_i h; rw [hK] at h; exact absurd h.1 (by decide)
   ·exact .inl rfl
 have h2 : ((ckptJ n J st).2 = 0 ∨ (ckptJ n J st).2 = 4) /\ (ckptJ n J st).1.b = false := by
  unfold ckptJ
  split
  ·exact ⟨.inr rfl, hb⟩
  ·split
   ·rename_i h; rw [hb] at h; exact absurd h.1 (by decide)
   ·exact ⟨.inl rfl, hb⟩
 unfold noteJ
 split
 ·split
  ·exact h1 _ _ h2.2
  ·exact h2.1
 ·exact h1 _ _ hb
theorem JSo.set {w0 w w' : World} {n gq : Nat} {x : PX} {J : JS} {M : Mod} {cs : Array Value} (h : JSo w0 w n x J M) (hb : Blk w gq 113 cs) (hq : w0.heap.size <= gq) (ho : Only [gq] w w') : JSo w0 w' n x J M :=
  ⟨h.jx.past ho (fun k hk => by
      simp at hk
      subst hk
      exact ⟨x1N hb (h.jx.odd (by decide) (by decide) (by decide) (by decide)), Odd.blk hb (by decide), hq⟩),
    h.so.typed ho (fun k hk => by
      simp at hk
      subst hk
      exact ⟨_, _, hb, by decide, by decide, by decide, by decide, by decide, by decide⟩), h.nw, h.gsN, h.zj, h.zm, fun z hz => Nat.lt_of_lt_of_le (h.zu z hz) ho.size⟩
theorem ToldR.past {w w' : World} {B : Nat} {v : Value} {told : List (List Nat)} {G : List Nat} (h : ToldR w B v told) (ho : Only G w w') (hG : ∀ k ∈ G, k < B ∨ w.heap.size <= k) : ToldR w' B v told := by
 obtain ⟨T, ct, tv, e, h1, h2⟩ := h
 have hr : ∀ {size n : Nat} {t : TypeId} {u : Value} {xs : List Value}, w.ownsRow B t size u n xs -> w'.ownsRow B t size u n xs := fun {size n t u xs} hu => x12 hu ho fun k hk hm => by
  have h3 := x0I hu k hk
  have h4 := x02 hu k hk
  rcases hG k hm with h5 | h5 <;> omega
 refine ⟨T, ct, tv, e, hr h1, h2.imp fun a b hx => ?_⟩
 obtain ⟨A, c, e1, e2, e3, e4⟩ := hx
 exact ⟨A, c, e1, hr e2, e3, e4⟩
theorem ToldR.low {w : World} {B B' : Nat} {v : Value} {told : List (List Nat)} (h : ToldR w B v told) (hb : B' <= B) : ToldR w B' v told := by
 obtain ⟨T, ct, tv, e, h1, h2⟩ := h
 exact ⟨T, ct, tv, e, x0A h1 hb, h2.imp fun a b hx => hx.weaken hb⟩
theorem ToldR.since {w w' : World} {B : Nat} {v : Value} {told : List (List Nat)} (h : ToldR w B v told) (hb : Below w.heap.size w w') : ToldR w' B v told := h.past (G := []) (Only.of_below hb _) (fun k hk => by cases hk)
theorem xKH (nm : List Nat) (xs : List StepV) : opB nm xs ≠ [] := by unfold opB; simp
section
variable {w0 w : World} {n k : Nat} {x : PX} {J : JS} {M : Mod}
set_option maxHeartbeats 16000000 in
theorem xMR (h : PAt w0 w n x J k M) (hT : Tab w0) (hw0 : 0 < w0.heap.size) (hk : k <= 40) {B cs : Nat} {As : Option Addr} {l : List SV} (nm : List Nat) (hsm : Small nm) (hnm : nm.length <= 1000000) (hl : StepsR w B As l) (hB : B <= w.heap.size) (hll : l.length <= cs) (hl6 : l.length <= 1000000) (hyes : (l.map SV.x).any lastB = true) (hlen : (opB nm (l.map SV.x)).length <= 1000000) :
  Calls Tryz.prog 62 #[.pointer (some ⟨x.gq, 0, none⟩), .agg (chC 1 nm As l.length cs 0)] w (PDoTo w0 w n x J k M nm (l.map SV.x)) := by
 obtain ⟨w1, hw1⟩ : ∃ w1, w1 = w.alloc (.cells (chC 1 nm As l.length cs 0) 128) := ⟨_, rfl⟩
 have hb1 : Below w.heap.size w w1 := by rw [hw1]; exact x06 _ _
 have K1 : Blk w1 w.heap.size 128 (chC 1 nm As l.length cs 0) := by rw [hw1]; exact Blk.new _ _ _
 have hp1 := h.pb.below hb1 h.pb.lt
 have q2 : w1.cell? ⟨x.gq, 2, none⟩ = some (.bool false) := hp1.cell 2
 have HLA := kH (xDL nm (hl.since hb1) (Nat.le_trans hB hb1.size) hl6 (cs := cs))
 rw [hyes] at HLA
 have HH := kH h
 have HL := kH hl
 have HW1 := kH hw1
 have HB1 := kH hb1
 have HK1 := kH K1
 have HP1 := kH hp1
 have HYES := kH hyes
 clear hw1 hb1 h hl hp1 hyes
 go_enter Tryz.func62, Tryz.ntmps62
 go_wp2_with (first | rw [<- HW1.out] | (refine x1U rfl (.tmp 3) rfl w.heap.size rfl (chC 1 nm As l.length cs 0) rfl HK1.out ?_))
 refine HLA.out.mono ?_
 rintro e w2 ⟨rfl, hb2⟩
 have hb02 : Below w.heap.size w w2 := HB1.out.trans (hb2.mono HB1.out.size)
 have hp2 := HH.out.pb.below hb02 HH.out.pb.lt
 have hk2 := HK1.out.below hb2 K1.lt
 have q1 : w2.cell? ⟨x.gq, 1, none⟩ = some (.pointer (some ⟨x.gs, 0, none⟩)) := hp2.cell 1
 have HB2 := kH hb02
 have HK2 := kH hk2
 have hj2 := HH.out.js.below hb02
 have HJ2 := kH hj2
 have HCP := kH (xGO hj2.so)
 clear hb2 hb02 hp2 hk2 hj2 K1 HLA
 go_wp2_with fail
 refine HCP.out.mono ?_
 rintro e w3 ⟨gs, ms, gp, r, c, A3, rfl, hso3, hg3, hn3, hb3⟩
 have hk3 := HK2.out.below hb3 HK2.out.lt
 have hb03 : Below w.heap.size w w3 := HB2.out.trans (hb3.mono HB2.out.size)
 have hzu3 : ∀ z ∈ ms :: x.Z, z < w3.heap.size := fun z hz => by
  rcases List.mem_cons.1 hz with rfl | hz
  ·exact hso3.st.map.lt
  ·exact Nat.lt_of_lt_of_le (HJ2.out.zu z hz) hb3.size
 have HCD := kH (xCX hso3 (by simp) hzu3 HH.out.inv (by omega) nm hsm hnm (HL.out.since hb03) (Nat.le_trans hB hb03.size) hll hl6)
 have HK3 := kH hk3
 have H3 := kH (kA hso3 (kA hg3 (kA hn3 (kA hb3 hzu3))))
 clear hk3 hb03 hzu3 hso3 hg3 hn3 hb3 HCP q1 q2
 go_wp2_with (refine x1U rfl (.tmp 3) rfl w.heap.size rfl (chC 1 nm As l.length cs 0) rfl HK3.out ?_)
 refine HCD.out.mono ?_
 rintro e w5 ⟨w4, hb4, hon5, M', kk, told, v, kv', hr, hso5, rfl, ht5⟩
 obtain ⟨i1, i2, i3⟩ := x76 HH.out.inv hr
 have hb34 : Below w2.heap.size w2 w4 := H3.out.2.2.2.1.trans (hb4.mono H3.out.2.2.2.1.size)
 have hb25 : Below w2.heap.size w2 w5 := hb34.trans (hon5.below H3.out.2.2.1 hb34.size)
 have hb05 : Below w.heap.size w w5 := HB2.out.trans (hb25.mono HB2.out.size)
 have hs24 : w.heap.size <= w4.heap.size := Nat.le_trans HB2.out.size hb34.size
 have HB5 := kH hb05
 have HT5 := kH (ht5.low (B' := w.heap.size) hs24)
 have HT5' := kH ht5
 have HS24 := kH hs24
 have HR := kH hr
 have hk5 : Blk w5 w.heap.size 128 (chC 1 nm As l.length cs 0) := HK2.out.below hb25 HK2.out.lt
 have HK5 := kH hk5
 have hp5 := HH.out.pb.below hb05 HH.out.pb.lt
 have HP5 := kH hp5
 have hnew : JSo w0 w5 n {x with gs := gs, ms := ms, gp := gp, r := r, cs := c, As := A3, kv := kv', Z := ms :: x.Z} J M' := HJ2.out.swap hb25 hso5 (fun z hz => by simp [hz]) (by simp) (fun z hz => Nat.lt_of_lt_of_le (H3.out.2.2.2.2 z hz) (Nat.le_trans hb4.size hon5.size)) (fun q hq => H3.out.2.2.1 q (by rw [x2Q i2] at hq; exact hq)) H3.out.2.1
 have HNEW := kH hnew
 have HI := kH (kA i1 (kA i2 i3))
 have HN3 := kH (kA H3.out.2.2.1 H3.out.2.1)
 clear hb34 hb25 hb05 hs24 hr hso5 ht5 hon5 hb4 hk5 hp5 hnew i1 i2 i3 H3 HCD
 cases hkk : kk with
 | succ i =>
  have hfin : PDoTo w0 w n x J k M nm (l.map SV.x) (.returned (.tuple #[.slice none 0 0, errV (i + 1)])) w5 :=
   ⟨x, J, M, i + 1, .slice none 0 0, [], .bad HYES.out (hkk ▸ HR.out) (by omega), rfl, (HH.out.below HB5.out).more (by omega), rfl, rfl, ToldR.nil _ _, Only.of_below HB5.out _, Fresh.refl _ _, fun z hz => hz⟩
  have HFIN := kH hfin
  clear hfin
  simp only [errV] at HFIN ⊢
  go_wp2
  go_ret2
  exact HFIN.out
 | zero =>
  subst hkk
  simp only [errV]
  have HTX := kH (xFE nm hsm hnm (HL.out.since HB5.out) (Nat.le_trans hB HB5.out.size) hl6 (by omega) (cs := cs))
  go_wp2_with (refine x1U rfl (.tmp 3) rfl w.heap.size rfl (chC 1 nm As l.length cs 0) rfl HK5.out ?_)
  refine HTX.out.mono ?_
  rintro e w6 ⟨v6, rfl, ho6, hb6⟩
  obtain ⟨A6, c6, rfl⟩ := x0H ho6
  obtain ⟨hc6, hcm6⟩ := x8Z ho6
  have hb06 : Below w.heap.size w w6 := HB5.out.trans (hb6.mono HB5.out.size)
  have hp6 := HH.out.pb.below hb06 HH.out.pb.lt
  have hopl : 0 < (opB nm (l.map SV.x)).length := List.length_pos_iff.2 (xKH _ _)
  have hsmall : Small (opB nm (l.map SV.x)) := xB0 hsm (fun y hy => by
   obtain ⟨s, hs, rfl⟩ := List.mem_map.1 hy
   have := HL.out.els s hs
   exact ⟨this.nm, this.dat.2⟩)
  have hblk : ∀ q ∈ blkOf A6, q < w6.heap.size /\ q ∉ jf x.gj x.vt x.F := fun q hq => by
   have h1 := x5F ho6 hopl q hq
   refine ⟨h1.2, fun hm => ?_⟩
   have h2 := HH.out.js.jx.under q hm
   have := HB5.out.size
   omega
  have HNT := kH (xL7 (HH.out.js.below hb06) hp6 HH.out.fine HH.out.sm (by omega) HH.out.n5 HH.out.inv (by omega) (HH.out.put hk) A6 c6 (opB nm (l.map SV.x)) (ho6.bytes hsmall) hlen hc6 hcm6 (xKH _ _) hT hw0 hblk)
  have HB6 := kH (kA hb06 hb6)
  have HP6 := kH hp6
  clear ho6 hc6 hcm6 hb06 hb6 hp6 hopl hsmall hblk HTX
  go_wp2_with fail
  refine HNT.out.mono ?_
  rintro e w7 ⟨rfl, F7, A7, c7, vt7, us7, hj7, ho7, hf7, hfi7⟩
  have hp7 : Blk w7 x.gq 113 (poolC x.gj x.gs false) := HP6.out.of (ho7.block _ HP6.out.lt (x1N HP6.out ((HH.out.js.below HB6.out.1).jx.odd (by decide) (by decide) (by decide) (by decide))))
  have HP7 := kH hp7
  have H7 := kH (kA hj7 (kA ho7 (kA hf7 hfi7)))
  have hsm7 := xP0 (st := putM M) (tx := opB nm (l.map SV.x)) HH.out.n5 HH.out.sm
  have hne7 := xN5 (n := n) (st := putM M) (tx := opB nm (l.map SV.x)) HH.out.sm.b
  have HSM7 := kH hsm7
  have hju : ∀ q ∈ jf x.gj x.vt x.F, q < w.heap.size := HH.out.js.jx.under
  have HJU := kH hju
  have hon07 : Only (pfoot x M) w w7 := (Only.of_below HB6.out.1 _).trans (ho7.mono (G := pfoot x M) (fun q hq => List.mem_cons_of_mem _ (List.mem_append_right _ hq))) (Fresh.refl _ _)
  have HON := kH hon07
  clear hj7 ho7 hf7 hfi7 hp7 hsm7 hju hon07 HNT
  rcases hne7 with he | he
  ·have hpd : PDo n J M nm (l.map SV.x) (noteJ n J (putM M) (opB nm (l.map SV.x))).1 M' 0 told := .done HYES.out HR.out he
   have HPD := kH hpd
   rw [he]
   clear hpd he
   simp only [errV]
   generalize noteJ n J (putM M) (opB nm (l.map SV.x)) = NJ at *
   obtain ⟨J', ej⟩ := NJ
   dsimp only at *
   go_wp2_with (refine x0J rfl 36 _ _ rfl x.gq 1 113 (poolC x.gj x.gs false) (.pointer (some ⟨gs, 0, none⟩)) rfl rfl HP7.out (by simp [poolC]) (by kernel_rfl) rfl ?_; intro w8 K8 o8 s8)
   go_ret2
   have hh := HH.out
   have hn6 := HNEW.out.below HB6.out.2
   have hn7 := hn6.noted H7.out.1 H7.out.2.1 H7.out.2.2.1
   have hn8 := hn7.set (gq := x.gq) HP7.out hh.gqN o8
   refine ⟨_, J', M', 0, v, told, HPD.out, rfl, ⟨hn8, K8, hh.gqN, H7.out.2.2.2, HSM7.out, HI.out.1.mono (by omega), (xA9 hh.inv.keys hh.ia HR.out).mono (by omega), by rw [HI.out.2.1]; exact hh.fl, hh.n5, xAJ hh.nn HR.out, xAD hh.rs HR.out⟩, rfl, rfl, ?_, ?_, ?_, fun z hz => List.mem_append_right _ (List.mem_cons_of_mem _ hz)⟩
   ·refine ((HT5'.out.since HB6.out.2).past H7.out.2.1 (fun q hq => .inl ?_)).past o8 (fun q hq => ?_) |>.low HS24.out
    ·exact Nat.lt_of_lt_of_le (HJU.out q hq) HS24.out
    ·simp at hq
     subst hq
     exact .inl (Nat.lt_of_lt_of_le hh.pb.lt HS24.out)
   ·refine HON.out.trans (o8.mono (G := pfoot x M) (fun q hq => ?_)) (Fresh.refl _ _)
    simp at hq
    subst hq
    exact List.mem_cons_self
   ·intro q hq
    unfold pfoot at hq ⊢
    rw [List.mem_cons, List.mem_append] at hq
    rcases hq with rfl | hq | hq
    ·exact .inl List.mem_cons_self
    ·have h1 : w2.heap.size <= q := HN3.out.1 q (by rw [x2Q HI.out.2.1] at hq; exact hq)
     exact .inr (Nat.le_trans HB2.out.size h1)
    ·rcases H7.out.2.2.1 q hq with h1 | h1
     ·exact .inl (List.mem_cons_of_mem _ (List.mem_append_right _ h1))
     ·exact .inr (Nat.le_trans HB6.out.1.size h1)
  ·have hpd : PDo n J M nm (l.map SV.x) (noteJ n J (putM M) (opB nm (l.map SV.x))).1 M 4 [] := he ▸ .full HYES.out HR.out (by rw [he]; omega)
   have HPD := kH hpd
   have HID := isdown4 w7
   rw [he]
   clear hpd he
   simp only [errV] at HID ⊢
   have HID := kH HID
   generalize noteJ n J (putM M) (opB nm (l.map SV.x)) = NJ at *
   obtain ⟨J', ej⟩ := NJ
   dsimp only at *
   go_wp2_with fail
   refine HID.out.mono ?_
   rintro e w' ⟨rfl, rfl⟩
   go_wp2_with (refine x0J rfl 4 _ _ rfl x.gq 2 113 (poolC x.gj x.gs false) (.bool false) rfl rfl HP7.out (by simp [poolC]) (by kernel_rfl) rfl ?_; intro w8 K8 o8 s8)
   go_ret2
   have hh := HH.out
   have hn6 := hh.js.below HB6.out.1
   have hn7 := hn6.noted H7.out.1 H7.out.2.1 H7.out.2.2.1
   have hn8 := hn7.set (gq := x.gq) HP7.out hh.gqN o8
   refine ⟨_, J', M, 4, .slice none 0 0, [], HPD.out, rfl, ⟨hn8, K8, hh.gqN, H7.out.2.2.2, HSM7.out, hh.inv.mono (by omega), hh.ia.mono (by omega), hh.fl, hh.n5, hh.nn, hh.rs⟩, rfl, rfl, ToldR.nil _ _, ?_, ?_, fun z hz => List.mem_append_right _ hz⟩
   ·refine HON.out.trans (o8.mono (G := pfoot x M) (fun q hq => ?_)) (Fresh.refl _ _)
    simp at hq
    subst hq
    exact List.mem_cons_self
   ·intro q hq
    unfold pfoot at hq ⊢
    rw [List.mem_cons, List.mem_append] at hq
    rcases hq with rfl | hq | hq
    ·exact .inl List.mem_cons_self
    ·exact .inl (List.mem_cons_of_mem _ (List.mem_append_left _ hq))
    ·rcases H7.out.2.2.1 q hq with h1 | h1
     ·exact .inl (List.mem_cons_of_mem _ (List.mem_append_right _ h1))
     ·exact .inr (Nat.le_trans HB6.out.1.size h1)
end
end
section
open Go.RowKit Go.BigFrame
section
variable {w0 w : World} {n k : Nat} {x : PX} {J : JS} {M : Mod}
theorem xNU (h : PAt w0 w n x J k M) (hT : Tab w0) (hw0 : 0 < w0.heap.size) (hk : k <= 40) {B cs : Nat} {As : Option Addr} {l : List SV} (nm : List Nat) (hsm : Small nm) (hnm : nm.length <= 1000000) (hl : StepsR w B As l) (hB : B <= w.heap.size) (hll : l.length <= cs) (hl6 : l.length <= 1000000) (hlen : (opB nm (l.map SV.x)).length <= 1000000) :
  Calls Tryz.prog 62 #[.pointer (some ⟨x.gq, 0, none⟩), .agg (chC 1 nm As l.length cs 0)] w (PDoTo w0 w n x J k M nm (l.map SV.x)) := by
 cases hy : (l.map SV.x).any lastB with
 | false => exact xLJ h hk nm hsm hnm hl hB hll hl6 hy
 | true => exact xMR h hT hw0 hk nm hsm hnm hl hB hll hl6 hy hlen
set_option maxHeartbeats 4000000 in
theorem xFB (h : PAt w0 w n x J k M) (hT : Tab w0) (hw0 : 0 < w0.heap.size) (hk : k <= 40) {B cs : Nat} {As : Option Addr} {l : List SV} (nm : List Nat) (hsm : Small nm) (hnm : nm.length <= 1000000) (hl : StepsR w B As l) (hB : B <= w.heap.size) (hll : l.length <= cs) (hl6 : l.length <= 1000000) (hlen : (opB nm (l.map SV.x)).length <= 1000000) :
  Calls Tryz.prog 20 #[.pointer (some ⟨x.gq, 0, none⟩), .string (strOf nm), .slice As l.length cs] w (PDoTo w0 w n x J k M nm (l.map SV.x)) := by
 have HD := kH (xNU h hT hw0 hk nm hsm hnm hl hB hll hl6 hlen)
 have hbd : ∀ w, (Instr.build 128 #[(0, .int .u8 1), (1, .string (strOf nm)), (2, .slice As l.length cs)]).run Tryz.prog w = .ok (.agg (chC 1 nm As l.length cs 0)) w := fun w => by kernel_rfl
 clear h hl
 go_enter Tryz.func20, Tryz.ntmps20
 go_wp2_with fail
 refine HD.out.mono ?_
 rintro e w' ⟨x', J', M', kk, v, told, h1, rfl, h2⟩
 have HF : Hid (PDoTo w0 w n x J k M nm (l.map SV.x) (.returned (.tuple #[v, errV kk])) w') := kH ⟨x', J', M', kk, v, told, h1, rfl, h2⟩
 clear h1 h2 hbd
 generalize errV kk = ev at HF
 go_wp2
 go_ret2
 exact HF.out
end
section
variable (w : World)
theorem xFO (v : Array Value) : Calls Tryz.prog 62 #[.pointer none, .agg v] w fun e w' => e = .returned (.tuple #[.slice none 0 0, errV 13]) /\ Below w.heap.size w w' := by
 have hb1 : Below w.heap.size w (w.alloc (.cells v 128)) := x06 _ _
 have hbx : ∀ w, (Instr.box 128 (.agg v)).run Tryz.prog w = .ok (.pointer (some ⟨w.heap.size, 0, none⟩)) (w.alloc (.cells v 128)) := fun w => by kernel_rfl
 go_enter Tryz.func62, Tryz.ntmps62
 go_wp2
 go_ret2
 exact ⟨rfl, hb1⟩
theorem xOV (s : ByteArray) (A1 : Option Addr) (n c : Nat) : Calls Tryz.prog 20 #[.pointer none, .string s, .slice A1 n c] w fun e w' => e = .returned (.tuple #[.slice none 0 0, errV 13]) /\ Below w.heap.size w w' := by
 have HD := fun v => kH (xFO w v)
 simp only [errV] at HD
 go_enter Tryz.func20, Tryz.ntmps20
 go_wp2_with fail
 refine (HD _).out.mono ?_
 rintro e w' ⟨rfl, hb⟩
 have HB := kH hb
 clear hb HD
 go_wp2
 go_ret2
 exact ⟨rfl, HB.out⟩
theorem xH0 (i : Int) : Calls Tryz.prog 18 #[.pointer none, .int .i64 i] w fun e w' => e = .returned (errV 13) /\ Below w.heap.size w w' := by
 have HD := fun v => kH (xFO w v)
 simp only [errV] at HD
 go_enter Tryz.func18, Tryz.ntmps18
 go_wp2_with fail
 refine (HD _).out.mono ?_
 rintro e w' ⟨rfl, hb⟩
 have HB := kH hb
 clear hb HD
 go_wp2
 go_ret
 exact ⟨rfl, HB.out⟩
theorem xGC : Calls Tryz.prog 15 #[.pointer none] w fun e w' => e = .returned (.pointer none) /\ w = w' := by
 go_enter Tryz.func15, Tryz.ntmps15
 go_wp2
 go_ret
 exact ⟨rfl, rfl⟩
theorem xJX (s : ByteArray) : Calls Tryz.prog 26 #[.pointer none, .string s] w fun e w' => e = .returned (.tuple #[.slice none 0 0, .bool false]) /\ w = w' := by
 go_enter Tryz.func26, Tryz.ntmps26
 go_wp2
 go_ret2
 exact ⟨rfl, rfl⟩
theorem xGP (s : ByteArray) : Calls Tryz.prog 29 #[.pointer none, .string s] w fun e w' => e = .returned (.slice none 0 0) /\ w = w' := by
 go_enter Tryz.func29, Tryz.ntmps29
 go_wp2
 go_ret
 exact ⟨rfl, rfl⟩
theorem xM8 : Calls Tryz.prog 34 #[.pointer none] w fun e w' => e = .returned (.int .i64 0) /\ w = w' := by
 go_enter Tryz.func34, Tryz.ntmps34
 go_wp2
 go_ret
 exact ⟨rfl, rfl⟩
theorem xLR : Calls Tryz.prog 35 #[.pointer none] w fun e w' => e = .returned (.int .i64 0) /\ w = w' := by
 go_enter Tryz.func35, Tryz.ntmps35
 go_wp2
 go_ret
 exact ⟨rfl, rfl⟩
theorem xGU : Calls Tryz.prog 36 #[.pointer none] w fun e w' => e = .returned (.bool true) /\ w = w' := by
 go_enter Tryz.func36, Tryz.ntmps36
 go_wp2
 go_ret
 exact ⟨rfl, rfl⟩
theorem xLH (s : ByteArray) : Calls Tryz.prog 33 #[.pointer none, .string s] w fun e w' => e = .returned (.bool true) /\ w = w' := by
 go_enter Tryz.func33, Tryz.ntmps33
 go_wp2_with fail
 refine (xJX w s).mono ?_
 rintro e w' ⟨rfl, rfl⟩
 go_wp2_with fail
 refine (xGP w _).mono ?_
 rintro e w' ⟨rfl, rfl⟩
 go_wp2
 go_ret
 exact ⟨rfl, rfl⟩
end
theorem xK1 {w : World} {base g : Nat} {F : List Nat} {d : DM} (h : DiskAt w base F g d) : ∀ k ∈ F, OffS w k := fun k hk => by
 obtain ⟨gm, v, rfl, hl⟩ := h
 have hO : ∀ t, 106 ≠ t -> 208 ≠ t -> Odd w t k := fun t h1 h2 => by
  simp only [List.mem_cons] at hk
  rcases hk with rfl | rfl | hk
  ·exact Odd.blk hl.blk h1
  ·obtain ⟨f, hm, _⟩ := hl.map
   exact Odd.mapAt hm
  ·obtain ⟨cs, hb⟩ := x0G hl.row (x00.1 hk)
   exact Odd.blk hb h2
 exact ⟨hO _ (by decide) (by decide), hO _ (by decide) (by decide), hO _ (by decide) (by decide), hO _ (by decide) (by decide), hO _ (by decide) (by decide), hO _ (by decide) (by decide)⟩
noncomputable def J0 (n b : Nat) : JS := ⟨fmtF n (fun _ => Sec.zero) (putM (M0 b)), pn (putM (M0 b)) + 6, 1, putM (M0 b), [], 0, false, 0⟩
theorem x3B (b : Nat) : (putM (M0 b)).length = 24 := by
 have h : (srt ([] : List Key)) = [] := by unfold srt; simp
 simp [putM, M0, x04, flB, flags8, h]
theorem pn0 (b : Nat) : pn (putM (M0 b)) = 1 := by unfold pn; rw [x3B]
set_option maxHeartbeats 8000000 in
theorem xF0 {w0 w : World} {g n b : Nat} {F : List Nat} (hd : DiskAt w w0.heap.size F g (DM.idle n (fun _ => Sec.zero) 0 0)) (hb : Below w0.heap.size w0 w) (hn : n <= 500) (hn8 : 8 <= n) (hbl : b <= 300) (hT : Tab w0) (hw0 : 0 < w0.heap.size) :
  Calls Tryz.prog 13 #[.pointer (some ⟨g, 0, none⟩), .int .i64 b] w fun e w' => ∃ x, e = .returned (.tuple #[.pointer (some ⟨x.gq, 0, none⟩), .nilIface]) /\ x.g = g /\ PAt w0 w' n x (J0 n b) 0 (M0 b) /\ Only F w w' /\ Fresh w F (pfoot x (M0 b)) := by
 have HD := kH hd
 have HB := kH hb
 clear hd hb
 go_enter Tryz.func13, Tryz.ntmps13
 go_wp2_with fail
 refine (xAS b (by omega) w).mono ?_
 rintro e w1 ⟨p, rfl, gs, ms, gp, r, c, As, rfl, hst, hg1, hg2, hg3, hg4, hb1⟩
 have hso1 : ∀ Z, StoreAt w1 Z gs ms gp r c As (M0 b) [] := fun Z => ⟨hst, .nil⟩
 have HPT := kH (xAU (hso1 []) (inv0 (n := b) (by omega)) (by omega) (by rw [x3B]; omega))
 have HSO := kH hso1
 have HG := kH (kA hg1 (kA hg2 (kA hg3 (kA hg4 hb1))))
 clear hst hg1 hg2 hg3 hg4 hb1 hso1
 go_wp2_with fail
 refine HPT.out.mono ?_
 rintro e w2 ⟨v, rfl, ho2, hb2, hsm⟩
 obtain ⟨A2, c2, rfl⟩ := x0H ho2
 obtain ⟨hc2, hcm2⟩ := x8Z ho2
 have hb02 : Below w.heap.size w w2 := HG.out.2.2.2.2.trans (hb2.mono HG.out.2.2.2.2.size)
 have hw02 : Below w0.heap.size w0 w2 := HB.out.trans (hb02.mono HB.out.size)
 have hd2 := HD.out.of (x24 hb02 HD.out.under)
 have hpn := pn0 b
 have har : 1 <= areaOf n := by unfold areaOf; omega
 obtain ⟨e1, e2⟩ := xN1 n 0 0 (fun _ => Sec.zero) (putM (M0 b)) hn8 (by omega)
 have HF := kH (JX.format (n := n) hd2 hw02 rfl (by omega) hn8 A2 c2 (st := putM (M0 b)) (ho2.bytes hsm) (by rw [x3B]; omega) hc2 hcm2 (by omega) (x0O hT hw02 hw0) hw0 (fun q hq => by
  have h1 := x5F ho2 (by rw [x3B]; omega) q hq
  refine ⟨h1.2, fun hm => ?_⟩
  have h2 := HD.out.under q hm
  have := HG.out.2.2.2.2.size
  omega) (xLB (by omega) (by omega) (by omega)) (by rw [e1]) (by rw [e2]))
 have H2 := kH (kA hb02 (kA hw02 (kA hd2 e2)))
 have HSO2 := kH (fun Z => (HSO.out Z).below hb2)
 have HSM := kH hsm
 have HS12 := kH hb2.size
 clear ho2 hb2 hsm hc2 hcm2 hb02 hw02 hd2 e1 e2 HPT har
 have hbd : ∀ gj w, (Instr.build 113 #[(0, .pointer (some ⟨gj, 0, none⟩)), (1, .pointer (some ⟨gs, 0, none⟩))]).run Tryz.prog w = .ok (.agg (poolC gj gs false)) w := fun gj w => by kernel_rfl
 go_wp2_with fail
 refine HF.out.mono ?_
 rintro e w3 ⟨gj, A3, c3, F3, rfl, hj3, ho3, hf3, hgj3⟩
 have hh := HG.out
 have hs1 := hh.2.2.2.2.size
 have hs2 := H2.out.1.size
 have hFu := HD.out.under
 have hjm : ∀ q ∈ jf gj (.slice none 0 0) F3, q ∈ F ∨ w2.heap.size <= q := fun q hq => by
  unfold jf at hq
  simp only [rowOf, Value.ownBlock, Option.toList, List.nil_append, List.mem_cons] at hq
  rcases hq with rfl | hq
  ·exact .inr hgj3
  ·exact hf3 q hq
 have hso3 : StoreAt w3 (jf gj (.slice none 0 0) F3 ++ (ms :: F)) gs ms gp r c As (M0 b) [] := by
  refine (HSO2.out _).past ho3 (fun q hq => ⟨by simp [hq], fun hm => ?_⟩) (xK1 H2.out.2.2.1)
  have h1 := hFu q hq
  have := hh.2.1
  omega
 rw [H2.out.2.2.2] at hj3
 have hj3' : JX w0 w3 g gj (DM.up (J0 n b).b n (J0 n b).f (J0 n b).s (J0 n b).l) n (J0 n b).gen (J0 n b).st (J0 n b).txs (J0 n b).u F3 A3 c3 (.slice none 0 0) [] := by
  have e : (0 : Nat) + pn (putM (M0 b)) + 6 = pn (putM (M0 b)) + 6 := by omega
  rw [e] at hj3
  exact hj3
 have hms : ms < w1.heap.size := (HSO.out []).st.map.lt
 have hs12 := HS12.out
 have hjso : JSo w0 w3 n ⟨w3.heap.size, g, gj, A3, c3, .slice none 0 0, [], F3, gs, ms, gp, r, c, As, [], jf gj (.slice none 0 0) F3 ++ (ms :: F)⟩ (J0 n b) (M0 b) := by
  have hw0w := HB.out.size
  refine ⟨hj3', hso3, fun q hq => ?_, by show w0.heap.size <= gs; omega, fun q hq => ⟨by simp [hq], fun hm => ?_⟩, by simp, fun z hz => ?_⟩
  ·rcases List.mem_cons.1 hq with rfl | hq
   ·have := hh.2.1; omega
   ·have h3 := hh.2.2.1
    have h4 := hh.2.2.2.1
    rcases x1Q hq with h5 | ⟨_, h5⟩
    ·have h6 : q = gp := h5
     omega
    ·have h6 : q = r := h5
     omega
  ·have hm' : q = ms := hm
   have h2 := hh.2.1
   rcases hjm q hq with h1 | h1
   ·have := hFu q h1; omega
   ·omega
  ·rcases List.mem_append.1 hz with hz | hz
   ·exact hj3'.under z hz
   ·rcases List.mem_cons.1 hz with rfl | hz
    ·exact hso3.st.map.lt
    ·exact Nat.lt_of_lt_of_le (hFu z hz) (Nat.le_trans hs2 ho3.size)
 have HJ := kH hjso
 have HJM := kH hjm
 have HO3 := kH ho3
 clear hjso hjm ho3 hso3 hj3 hj3' hf3 hgj3 HF hh hFu
 go_wp2
 go_ret2
 have hbel := x06 w3 (.cells (poolC gj gs false) 113)
 have hon : Only F w w3 := (Only.of_below H2.out.1 _).trans HO3.out (Fresh.refl _ _)
 refine ⟨⟨w3.heap.size, g, gj, A3, c3, .slice none 0 0, [], F3, gs, ms, gp, r, c, As, [], jf gj (.slice none 0 0) F3 ++ (ms :: F)⟩, rfl, rfl, ⟨HJ.out.below hbel, Blk.new _ _ _, ?_, JFine.format hn8 (by omega) (by rw [hpn]; unfold areaOf; omega) HSM.out (by rw [x3B]; omega), ⟨rfl, ?_, Nat.le_refl _, Nat.zero_le _, Nat.zero_le _⟩, inv0 (by omega), invA0 b, by simpa [M0] using hbl, hn, fun p hp => (by cases hp), ⟨List.Pairwise.nil, fun p hp => (by cases hp)⟩⟩, hon.alloc _, fun q hq => ?_⟩
 ·have := HJ.out.jx.bel.size
  exact this
 ·show pn (putM (M0 b)) + 6 <= 400 * (0 + 1)
  omega
 ·unfold pfoot at hq
  rw [List.mem_cons, List.mem_append] at hq
  rcases hq with rfl | hq | hq
  ·exact .inr hon.size
  ·refine .inr ?_
   have hh := HG.out
   rcases List.mem_cons.1 hq with rfl | hq
   ·exact hh.2.1
   ·rcases x1Q hq with rfl | ⟨_, rfl⟩
    ·exact hh.2.2.1
    ·exact hh.2.2.2.1
  ·rcases HJM.out q hq with h1 | h1
   ·exact .inl h1
   ·exact .inr (Nat.le_trans H2.out.1.size h1)
end
section
open Go.RowKit Go.BigFrame
theorem xKB : (Tryz.prog.info? 52).map (fun i => (i.zero, i.size, i.bytes)) = some (some (.agg #[.int .i64 0, .int .i64 0, .int .i64 0, .string { data := #[] }, .slice none 0 0]), 5, 64) := by kernel_rfl
structure StS (w wr : World) (base : Nat) (g : Nat) (F : List Nat) (rest : List Nat) (l : List SV) (lv : Value) (F' : List Nat) : Prop where
 rd : Rd wr base F' (some ⟨g, 0, none⟩) ⟨rest, false⟩
 on : Only F w wr
 fr : Fresh w F F'
 row : wr.ownsRow w.heap.size 52 5 lv l.length (l.flatMap SV.cs)
 rowF : ∀ k ∈ rowOf lv, k ∉ F'
 els : ∀ s ∈ l, Own wr w.heap.size (.slice s.D s.x.dt.length s.c) s.x.dt.length s.x.dt /\ Small s.x.dt /\ ∀ k ∈ rowOf (.slice s.D s.x.dt.length s.c), k ∉ F'
theorem StS.read {w wr w' : World} {base g : Nat} {F rest rest' : List Nat} {l : List SV} {lv : Value} {F' : List Nat} (h : StS w wr base g F rest l lv F') (ht : RTo wr base F' (some ⟨g, 0, none⟩) ⟨rest', false⟩ w') : ∃ F'', StS w w' base g F rest' l lv F'' /\ Only F' wr w' := by
 obtain ⟨F'', h1, h2, h3⟩ := ht
 have hfar : ∀ {v : Value} {base size n : Nat} {t : TypeId} {xs : List Value}, wr.ownsRow base t size v n xs -> (∀ k ∈ rowOf v, k ∉ F') -> w'.ownsRow base t size v n xs /\ ∀ k ∈ rowOf v, k ∉ F'' := fun {v base size n t xs} hv hn => ⟨x12 hv h2 hn, fun k hk hm => by
  rcases h3 k hm with h4 | h4
  ·exact hn k hk h4
  ·have := x02 hv k hk; omega⟩
 refine ⟨F'', ⟨h1, h.on.trans h2 h.fr, h.fr.trans h3 h.on.size, (hfar h.row h.rowF).1, (hfar h.row h.rowF).2, fun s hs => ?_⟩, h2⟩
 obtain ⟨x1, x2, x3⟩ := h.els s hs
 exact ⟨(hfar x1 x3).1, x2, (hfar x1 x3).2⟩
theorem StS.below {w wr w' : World} {base g : Nat} {F rest : List Nat} {l : List SV} {lv : Value} {F' : List Nat} (h : StS w wr base g F rest l lv F') (hb : Below wr.heap.size wr w') : StS w w' base g F rest l lv F' :=
 ⟨h.rd.below hb, h.on.trans (Only.of_below hb F') h.fr, h.fr, x05 h.row fun k hk => hb.block k (x02 h.row k hk), h.rowF, fun s hs => by
  obtain ⟨x1, x2, x3⟩ := h.els s hs
  exact ⟨x1.below hb, x2, x3⟩⟩
theorem xMJ (w : World) (s : SV) : Reads (w.alloc (.cells s.cs.toArray 52)) (w.heap.size + 1) 5 (some ⟨w.heap.size, 0, none⟩) 1 s.cs := Reads.newN w s.cs 1 5 52 (0, 0) rfl
theorem xHH (s : SV) : ∀ u ∈ s.cs, u.oneCell' = true := fun u hu => by
 simp [SV.cs] at hu
 rcases hu with rfl | rfl | rfl | rfl | rfl <;> rfl
theorem xKP {w : World} {ops : Array Oper} {rest : List Oper} {o : Oper} {a : Act} {Q : Exit -> Act -> World -> Prop} (s x : Operand)
  (hgd : o.guard = none) (ho : o.op = .call { callee := .builtin .append, args := #[s, x], argTypes := #[39, 39] })
  (base : Nat) (v : Value) (l : List SV) (hs : a.eval s = v) (hown : w.ownsRow base 52 5 v l.length (l.flatMap SV.cs))
  (B : Nat) (A : Option Addr) (c : Nat) (y : SV) (hx : a.eval x = .slice A 1 c) (hr : Reads w B 5 A 1 y.cs)
  (hsz : l.length <= 1000000) (hbase : base <= w.heap.size)
  (h : ∀ v' w', w'.ownsRow base 52 5 v' (l ++ [y]).length ((l ++ [y]).flatMap SV.cs) -> w.grownBy w' v.ownBlock -> (v'.ownBlock = v.ownBlock ∨ v'.ownBlock = some w.heap.size) -> wpList Tryz.prog ops Q rest (a.put o.dst v') w') :
  wpList Tryz.prog ops Q (o :: rest) a w := by
 obtain ⟨i0, hi0, hz0, hz1, hz2⟩ := info_parts xKB
 refine x0X w hgd s x _ ho base 52 i0 _ 5 64 Tryz.underlying39 hi0 hz0 hz1 hz2 rfl (by omega) v l.length (l.flatMap SV.cs) hs hown B A 1 c y.cs hx hr (xHH y) (by simp only [maxLen]; omega) (by omega) hbase ?_
 intro v' w' h1 h2 h3
 exact h v' w' (by rw [List.flatMap_append, List.length_append]; simpa using h1) h2 h3
theorem StS.app {w wr w' : World} {base g : Nat} {F rest : List Nat} {l : List SV} {lv lv' : Value} {F' : List Nat} {y : SV} {b : Nat} (h : StS w wr base g F rest l lv F') (hb : w.heap.size <= b) (hy : Own wr b (.slice y.D y.x.dt.length y.c) y.x.dt.length y.x.dt) (hs : Small y.x.dt) (hn : ∀ k ∈ rowOf (.slice y.D y.x.dt.length y.c), k ∉ F')
  (h1 : w'.ownsRow w.heap.size 52 5 lv' (l ++ [y]).length ((l ++ [y]).flatMap SV.cs)) (h2 : wr.grownBy w' lv.ownBlock) (h3 : lv'.ownBlock = lv.ownBlock ∨ lv'.ownBlock = some wr.heap.size) : StS w w' base g F rest (l ++ [y]) lv' F' := by
 have ho : Only (rowOf lv) wr w' := (Only.refl _ _).grown h2 (fun q e => .inl (x00.2 e))
 have hty : ∀ {base n : Nat} {v : Value} {bs : List Nat}, Own wr base v n bs -> Own w' base v n bs := fun {base n v bs} hv => x12 hv ho fun k hk hm => by
  obtain ⟨c1, b1⟩ := x0G hv (x00.1 hk)
  obtain ⟨c2, b2⟩ := x0G h.row (x00.1 hm)
  exact b1.ne_ b2 (by decide) rfl
 refine ⟨h.rd.of h2.size (fun k hk => ho.block k (h.rd.under k hk) (fun hm => h.rowF k hm hk)), ?_, h.fr, h1, fun k hk hm => ?_, fun s hs' => ?_⟩
 ·refine ⟨ho.os.trans h.on.os, ho.tape.trans h.on.tape, ho.output.trans h.on.output, Nat.le_trans h.on.size ho.size, fun i hi hni => (ho.block i (Nat.lt_of_lt_of_le hi h.on.size) (fun hm => ?_)).trans (h.on.block i hi hni)⟩
  have := x0I h.row i hm
  omega
 ·have e := x00.1 hk
  rcases h3 with h4 | h4
  ·rw [h4] at e
   exact h.rowF k (x00.2 e) hm
  ·rw [h4] at e
   injection e with e
   have := h.rd.under k hm
   omega
 ·rcases List.mem_append.1 hs' with hs' | hs'
  ·obtain ⟨x1, x2, x3⟩ := h.els s hs'
   exact ⟨hty x1, x2, x3⟩
  ·simp at hs'
   subst hs'
   exact ⟨hty (x0A hy hb), hs, hn⟩
theorem StS.steps {w wr : World} {base g : Nat} {F rest : List Nat} {l : List SV} {A1 : Option Addr} {c : Nat} {F' : List Nat} (h : StS w wr base g F rest l (.slice A1 l.length c) F') (hk : ∀ s ∈ l, StepOk s.x) : StepsR wr wr.heap.size A1 l :=
 ⟨Reads.of_own h.row, fun s hs => by
  obtain ⟨x1, x2, x3⟩ := h.els s hs
  have := hk s hs
  exact ⟨x1.bytes x2, this.nm.2, this.at_.1, this.at_.2, this.ln.1, this.ln.2, this.nm.1, this.dt.1⟩⟩
set_option maxHeartbeats 16000000 in
theorem xH2 {w : World} {base g : Nat} {F : List Nat} (xs : List StepV) (hx : ∀ x ∈ xs, StepOk x) (hn : xs.length <= 1000) (hlen : (xs.flatMap stepB).length <= 1000000) (h : Rd w base F (some ⟨g, 0, none⟩) ⟨numB (xs.length : Nat) ++ xs.flatMap stepB, false⟩) (hB : base <= w.heap.size) :
  Calls Tryz.prog 190 #[.pointer (some ⟨g, 0, none⟩)] w fun e w' => ∃ A1 c l F', e = .returned (.slice A1 l.length c) /\ l.map SV.x = xs /\ StS w w' base g F [] l (.slice A1 l.length c) F' := by
 obtain ⟨e1, e2⟩ := x6Y (xs.length : Nat) (by omega) (by omega) (xs.flatMap stepB)
 have hnum := x20 w base F (some ⟨g, 0, none⟩) _ h hB
 rw [e1, e2] at hnum
 have HN := kH hnum
 have HX := kH hx
 have HL := kH hlen
 have h0 : StS w w base g F (numB (xs.length : Nat) ++ xs.flatMap stepB) [] (.slice none 0 0) F := ⟨h, Only.refl _ _, Fresh.refl _ _, World.ownsRow_nil _ _ _ _, fun k hk => by simp [rowOf, Value.ownBlock] at hk, fun s hs => by cases hs⟩
 have H0 := kH h0
 clear hnum hx hlen h h0
 go_enter Tryz.func190, Tryz.ntmps190
 go_wp2_with fail
 refine HN.out.mono ?_
 rintro e w1 ⟨rfl, ht1⟩
 obtain ⟨F1, hS1, -⟩ := H0.out.read ht1
 have HS1 := kH hS1
 clear ht1 hS1
 go_wp2
 go_loopw [3, 6] (fun lv iv wr => ∃ (k : Nat) (l : List SV) (F' : List Nat), k <= xs.length /\ iv = .int .i64 k /\ l.map SV.x = xs.take k /\ StS w wr base g F ((xs.drop k).flatMap stepB) l lv F') (fun lv iv _ => xs.length - (intS iv).toNat)
 case atStart => exact ⟨0, [], F1, by omega, rfl, rfl, by simpa using HS1.out⟩
 case round =>
  obtain ⟨k, l, F', hk, rfl, hlx, hS⟩ := hrel
  obtain ⟨wq, hwq⟩ : ∃ wq, wq = wr := ⟨_, rfl⟩
  subst hwq
  have hwk : IntKind.i64.wrap ((k : Int) + 1) = (k : Int) + 1 := by rw [IntKind.wrap_i64]; omega
  obtain ⟨A1, c1, rfl⟩ := x0H hS.row
  by_cases hlt : k < xs.length
  ·obtain ⟨y, hy⟩ : ∃ y, xs[k]? = some y := ⟨_, List.getElem?_eq_getElem hlt⟩
   have hdr : xs.drop k = y :: xs.drop (k + 1) := by
    rw [List.drop_eq_getElem_cons hlt]
    congr 1
    rw [List.getElem?_eq_getElem hlt] at hy
    exact Option.some.inj hy
   have hok := HX.out y (List.mem_of_getElem? hy)
   have htk := x5R hy
   have hfl : ((xs.drop k).flatMap stepB) = numB y.kd ++ (numB y.at_ ++ (numB y.ln ++ (sttxB y.nm ++ (sttxB y.dt ++ (xs.drop (k + 1)).flatMap stepB)))) := by
    rw [hdr, List.flatMap_cons, xJI]
   have hpl : ((xs.drop k).flatMap stepB).length <= 1000000 := by
    have h1 := HL.out
    have h2 : xs.flatMap stepB = (xs.take k).flatMap stepB ++ (xs.drop k).flatMap stepB := by rw [<- List.flatMap_append, List.take_append_drop]
    rw [h2, List.length_append] at h1
    omega
   obtain ⟨rest, hrest⟩ : ∃ rest, rest = (xs.drop (k + 1)).flatMap stepB := ⟨_, rfl⟩
   rw [hfl] at hS hpl
   rw [<- hrest] at hS hpl
   simp only [List.length_append, x04, x1B] at hpl
   have hll : l.length <= 1000 := by
    have := congrArg List.length hlx
    rw [List.length_map, List.length_take] at this
    omega
   have HK := kH (kA hlx (kA htk (kA hrest hok)))
   have HLF := kH (x5Y wq base F' (some ⟨g, 0, none⟩) _ hS.rd)
   have hln : ((((numB y.kd ++ (numB y.at_ ++ (numB y.ln ++ (sttxB y.nm ++ (sttxB y.dt ++ rest))))).length : Nat) : Int) == 0) = false := by
    simp [x04]
    omega
   obtain ⟨e1, e2⟩ := x6Y y.kd hok.kd.1 hok.kd.2 (numB y.at_ ++ (numB y.ln ++ (sttxB y.nm ++ (sttxB y.dt ++ rest))))
   obtain ⟨e3, e4⟩ := x6Y y.at_ hok.at_.1 hok.at_.2 (numB y.ln ++ (sttxB y.nm ++ (sttxB y.dt ++ rest)))
   obtain ⟨e5, e6⟩ := x6Y y.ln hok.ln.1 hok.ln.2 (sttxB y.nm ++ (sttxB y.dt ++ rest))
   obtain ⟨e7, e8⟩ := x58 y.nm (by have := hok.nm.1; omega) (sttxB y.dt ++ rest)
   obtain ⟨e9, e10⟩ := x58 y.dt (by have := hok.dt.1; omega) rest
   have hbw : base <= wq.heap.size := Nat.le_trans hB hS.on.size
   have hc1 := x20 wq base F' (some ⟨g, 0, none⟩) _ hS.rd hbw
   rw [e1, e2] at hc1
   have HC1 := kH hc1
   have HS := kH hS
   have HE := kH (kA e3 (kA e4 (kA e5 (kA e6 (kA e7 (kA e8 (kA e9 e10)))))))
   obtain ⟨N, hN⟩ : ∃ N, N = (numB y.kd ++ (numB y.at_ ++ (numB y.ln ++ (sttxB y.nm ++ (sttxB y.dt ++ rest))))).length := ⟨_, rfl⟩
   rw [<- hN] at HLF hln
   have hN0 : N ≠ 0 := by intro e; rw [e] at hln; exact absurd hln (by decide)
   have hN1 : ((N : Int) == 0) = false := hln
   clear hy hdr hok htk hfl hS hlx hrest e1 e2 e3 e4 e5 e6 e7 e8 e9 e10 hbw hc1 hln hN
   go_wp2_with fail
   refine HLF.out.mono ?_
   rintro e w' ⟨rfl, rfl⟩
   go_wp2_with fail
   refine HC1.out.mono ?_
   rintro e wa ⟨rfl, ta⟩
   obtain ⟨Fa, sa, -⟩ := HS.out.read ta
   have hca := x20 wa base Fa (some ⟨g, 0, none⟩) _ sa.rd (Nat.le_trans hB sa.on.size)
   rw [HE.out.1, HE.out.2.1] at hca
   have HCa := kH hca
   have HSa := kH sa
   clear ta sa hca HC1 HLF HS
   go_wp2_with fail
   refine HCa.out.mono ?_
   rintro e wb ⟨rfl, ta⟩
   obtain ⟨Fb, sb, -⟩ := HSa.out.read ta
   have hcb := x20 wb base Fb (some ⟨g, 0, none⟩) _ sb.rd (Nat.le_trans hB sb.on.size)
   rw [HE.out.2.2.1, HE.out.2.2.2.1] at hcb
   have HCb := kH hcb
   have HSb := kH sb
   clear ta sb hcb HCa HSa
   go_wp2_with fail
   refine HCb.out.mono ?_
   rintro e wc ⟨rfl, ta⟩
   obtain ⟨Fc, sc, -⟩ := HSb.out.read ta
   have hcc := xBC wc base Fc (some ⟨g, 0, none⟩) _ sc.rd (Nat.le_trans hB sc.on.size)
   rw [HE.out.2.2.2.2.1, HE.out.2.2.2.2.2.1] at hcc
   have HCc := kH hcc
   have HSc := kH sc
   clear ta sc hcc HCb HSb
   go_wp2_with fail
   refine HCc.out.mono ?_
   rintro e wd ⟨rfl, ta⟩
   obtain ⟨Fd, sd, -⟩ := HSc.out.read ta
   have hcd := xGH wd base Fd (some ⟨g, 0, none⟩) _ sd.rd (Nat.le_trans hB sd.on.size) (by simp [x1B]; omega)
   rw [HE.out.2.2.2.2.2.2.1, HE.out.2.2.2.2.2.2.2] at hcd
   have HCd := kH hcd
   have HSd := kH sd
   clear ta sd hcd HCc HSc
   go_wp2_with fail
   refine HCd.out.mono ?_
   rintro e we ⟨v5, F5, rfl, ho5, hr5, hon5, hfr5, hsm5, hnF5⟩
   obtain ⟨D5, c5, rfl⟩ := x0H ho5
   obtain ⟨Fe, se, hone⟩ := HSd.out.read ⟨F5, hr5, hon5, hfr5⟩
   clear HCd
   obtain ⟨s, hs⟩ : ∃ s : SV, s = ⟨y, D5, c5⟩ := ⟨_, rfl⟩
   have hS5 : StS w we base g F rest l (.slice A1 l.length c1) F5 := by
    have hfar : ∀ {v : Value} {b size n : Nat} {t : TypeId} {zs : List Value}, wd.ownsRow b t size v n zs -> (∀ k ∈ rowOf v, k ∉ Fd) -> we.ownsRow b t size v n zs /\ ∀ k ∈ rowOf v, k ∉ F5 := fun {v b size n t zs} hv hn => ⟨x12 hv hon5 hn, fun k hk hm => by
     rcases hfr5 k hm with h4 | h4
     ·exact hn k hk h4
     ·have := x02 hv k hk; omega⟩
    refine ⟨hr5, HSd.out.on.trans hon5 HSd.out.fr, HSd.out.fr.trans hfr5 HSd.out.on.size, (hfar HSd.out.row HSd.out.rowF).1, (hfar HSd.out.row HSd.out.rowF).2, fun s hs => ?_⟩
    obtain ⟨x1, x2, x3⟩ := HSd.out.els s hs
    exact ⟨(hfar x1 x3).1, x2, (hfar x1 x3).2⟩
   have HS5 := kH hS5
   have hbl := x06 we (.cells s.cs.toArray 52)
   have hS6 := hS5.below hbl
   have HS6 := kH hS6
   have hwd : w.heap.size <= wd.heap.size := HSd.out.on.size
   have HV := kH (kA (ho5.below hbl) (kA hsm5 (kA hnF5 hwd)))
   have HR6 := kH (xMJ we s)
   have HSS := kH hs
   have hcs : s.cs.toArray = #[.int .i64 y.kd, .int .i64 y.at_, .int .i64 y.ln, .string (strOf y.nm), .slice D5 y.dt.length c5] := by rw [hs]; rfl
   obtain ⟨wf, hwf⟩ : ∃ wf, wf = we.alloc (.cells #[.int .i64 y.kd, .int .i64 y.at_, .int .i64 y.ln, .string (strOf y.nm), .slice D5 y.dt.length c5] 52) := ⟨_, rfl⟩
   rw [hcs, <- hwf] at HS6 HV HR6
   have HWF := kH hwf
   have hw6 := HS6.out.on.size
   clear ho5 hr5 hon5 hfr5 hsm5 hnF5 se hone hS5 hS6 hbl hs hwf hwd hcs
   go_wp2_with (first
    | rw [<- HWF.out]
    | (refine xKP (.tmp 11) (.tmp 23) rfl rfl w.heap.size (.slice A1 l.length c1) l rfl HS6.out.row (we.heap.size + 1) _ 1 s rfl HR6.out (by omega) hw6 ?_; intro v7 w7 h7 g7 a7))
   have hS7 := HS6.out.app (y := s) HV.out.2.2.2 (by rw [HSS.out]; exact HV.out.1) (by rw [HSS.out]; exact HV.out.2.1) (by rw [HSS.out]; exact fun q hq => HV.out.2.2.1 q (x00.1 hq)) h7 g7 a7
   have HS7 := kH hS7
   clear hS7 h7 g7 a7
   go_wp2
   go_roundw
   case rel =>
    refine ⟨k + 1, l ++ [s], F5, by omega, by go_num, ?_, ?_⟩
    ·rw [List.map_append, HK.out.1, HK.out.2.1, HSS.out]
     rfl
    ·rw [<- HK.out.2.2.1]
     exact HS7.out
   case measure => simp [intS]; omega
  ·obtain rfl : k = xs.length := by omega
   rw [List.drop_length, List.flatMap_nil] at hS
   rw [List.take_length] at hlx
   have HS := kH (kA hS hlx)
   clear hS hlx
   go_wp2
   go_ret
   exact ⟨A1, c1, l, F', rfl, HS.out.2, HS.out.1⟩
end
section
open Go.RowKit Go.BigFrame
theorem x7U {P : Program} {fn : Func} {p q : Tmp} {ty : TypeId} (h : fn.results = #[.cell p ty, .tmp q]) (tmps : Array Value) (w : World) (g : Nat) (t : TypeId) (cs : Array Value) (fr : Nat × Nat) (d : TypeDesc) (v : Value)
  (hp : tmps.getD p undef = .pointer (some ⟨g, 0, none⟩)) (hq : tmps.getD q undef = v) (hg : w.heap[g]? = some (.cells cs t fr))
  (hu : P.underlying ty = some d) (hd : (match d with | .struct _ | .array _ _ => true | _ => false) = true) (hi : (P.info? ty).map (·.size) = some cs.size) :
  (results fn tmps).run P w = .ok (.tuple #[.agg cs, v]) w := by
 have hp' : tmps[p]?.getD undef = .pointer (some ⟨g, 0, none⟩) := by simpa using hp
 have hq' : tmps[q]?.getD undef = v := by simpa using hq
 simp [results, h, hp', hq', asAddr, run_loadVar_row w g t ty cs fr d hg hu hd hi]
def chZ : Array Value := #[.int .u8 0, .string { data := #[] }, .slice none 0 0, .int .i64 0]
set_option maxHeartbeats 16000000 in
theorem xF6 {w : World} {B c : Nat} {A : Option Addr} (nm : List Nat) (xs : List StepV) (hsm : Small nm) (hnm : nm.length <= 1000000) (hx : ∀ x ∈ xs, StepOk x) (hn : xs.length <= 1000) (hlen : (opB nm xs).length <= 1000000) (hb : Bytes w B A (opB nm xs).length (opB nm xs)) (hB : B <= w.heap.size) :
  Calls Tryz.prog 126 #[.slice A (opB nm xs).length c] w fun e w' => ∃ A1 c1 l, e = .returned (.tuple #[.agg (chC 1 nm A1 l.length c1 0), .bool true]) /\ l.map SV.x = xs /\ StepsR w' w'.heap.size A1 l /\ l.length <= c1 /\ Below w.heap.size w w' := by
 obtain ⟨T, hT⟩ : ∃ T, T = opB nm xs := ⟨_, rfl⟩
 rw [<- hT] at hb hlen ⊢
 obtain ⟨w1, hw1⟩ : ∃ w1, w1 = w.alloc (.cells #[.int .u8 0, .string { data := #[] }, .slice none 0 0, .int .i64 0] 128) := ⟨_, rfl⟩
 have hb1 : Below w.heap.size w w1 := by rw [hw1]; exact x06 _ _
 have K1 : Blk w1 w.heap.size 128 chZ := by rw [hw1]; exact Blk.new _ _ _
 have HNR := kH (x91 A T.length c T w1 B (by omega) ((hb.since hb1)))
 have HT := kH hT
 have HW1 := kH hw1
 have HB1 := kH hb1
 have HK1 := kH K1
 have HBY := kH hb
 have HX := kH hx
 have HS1 : w1.heap.size = w.heap.size + 1 := by rw [hw1]; simp
 clear hw1 hb1 K1 hb hx hT
 go_enter Tryz.func126, Tryz.ntmps126
 go_wp2_with (first | rw [<- HW1.out])
 refine HNR.out.mono ?_
 rintro e w2 ⟨gr, F2, rfl, hr2, hb2⟩
 obtain ⟨e1, e2⟩ := xP1 1 (sttxB nm ++ (numB (xs.length : Nat) ++ xs.flatMap stepB))
 rw [HT.out, xP8] at hr2
 have hby := x6C w2 w1.heap.size F2 (some ⟨gr, 0, none⟩) _ hr2 hb2.size
 rw [e1, e2] at hby
 have HBYT := kH hby
 have H2 := kH (kA hr2 hb2)
 clear hr2 hb2 e1 e2 hby HNR
 go_wp2_with fail
 refine HBYT.out.mono ?_
 rintro e w3 ⟨rfl, F3, hr3, ho3, hf3⟩
 have hb3 : Below w1.heap.size w1 w3 := H2.out.2.trans (ho3.below (H2.out.1.over) H2.out.2.size)
 obtain ⟨w4, hw4⟩ : ∃ w4, w4 = w3.alloc (.cells #[.int .u8 1, .string { data := #[] }, .slice none 0 0, .int .i64 0] 128) := ⟨_, rfl⟩
 have hb34 : Below w3.heap.size w3 w4 := by rw [hw4]; exact x06 _ _
 have K4 : Blk w4 w3.heap.size 128 #[.int .u8 1, .string { data := #[] }, .slice none 0 0, .int .i64 0] := by rw [hw4]; exact Blk.new _ _ _
 obtain ⟨g5, hg5⟩ : ∃ g5, g5 = w3.heap.size := ⟨_, rfl⟩
 have hr4 := hr3.below hb34
 have hb4 : Below w1.heap.size w1 w4 := hb3.trans (hb34.mono hb3.size)
 obtain ⟨e1, e2⟩ := x58 nm (by omega) (numB (xs.length : Nat) ++ xs.flatMap stepB)
 have htx := xBC w4 w1.heap.size F3 (some ⟨gr, 0, none⟩) _ hr4 hb4.size
 rw [e1, e2] at htx
 have HTX := kH htx
 have c0 : w4.cell? ⟨g5, 0, none⟩ = some (.int .u8 1) := by rw [hg5]; exact K4.cell 0
 rw [<- hg5] at K4
 have hg5F : g5 ∉ F3 := fun hm => by have := hr3.under _ hm; omega
 have HW4 := kH hw4
 have HG5 := kH hg5
 have H4 := kH (kA hr4 (kA hb4 (kA K4 hg5F)))
 have HS5 : w1.heap.size <= g5 := by rw [hg5]; exact hb3.size
 clear hr3 ho3 hf3 hb3 hw4 hb34 K4 hr4 hb4 e1 e2 htx hg5 hg5F HBYT
 go_wp2_with (first | rw [<- HW4.out, <- HG5.out])
 refine HTX.out.mono ?_
 rintro e w5 ⟨rfl, F5, hr5, ho5, hf5⟩
 have hb5 : Below w1.heap.size w1 w5 := H4.out.2.1.trans (ho5.below H4.out.1.over H4.out.2.1.size)
 have K5 := H4.out.2.2.1.of (ho5.block _ H4.out.2.2.1.lt H4.out.2.2.2)
 have hg5F : g5 ∉ F5 := fun hm => by
  rcases hf5 _ hm with h1 | h1
  ·exact H4.out.2.2.2 h1
  ·have := H4.out.2.2.1.lt; omega
 have hT5 : (xs.flatMap stepB).length <= 1000000 := by
  have := hlen
  rw [HT.out] at this
  unfold opB at this
  simp only [List.length_cons, List.length_append] at this
  omega
 have HSP := kH (xH2 xs HX.out hn hT5 hr5 hb5.size)
 have H5 := kH (kA hb5 (kA K5 (kA hg5F hr5)))
 clear hr5 ho5 hf5 hb5 K5 hg5F HTX c0
 go_wp2_with fail
 refine HSP.out.mono ?_
 rintro e w6 ⟨A1, c1, l, F6, rfl, hlx, hS6⟩
 have K6 := H5.out.2.1.of (hS6.on.block _ H5.out.2.1.lt H5.out.2.2.1)
 have hb6 : Below w1.heap.size w1 w6 := H5.out.1.trans (hS6.on.below H5.out.2.2.2.over H5.out.1.size)
 have hcap : l.length <= c1 := by
  rcases hS6.row.2 with ⟨e, h0⟩ | ⟨g, cap, cur, e, _, _, h1, _⟩
  ·injection e with e1 e2 e3
   omega
  ·injection e with e1 e2 e3
   subst e3
   exact h1
 have hst6 := hS6.steps (fun s hs => HX.out s.x (by rw [<- hlx]; exact List.mem_map.2 ⟨s, hs, rfl⟩))
 have H6 := kH (kA hlx (kA hS6 (kA hb6 (kA hcap hst6))))
 have HK6 := kH K6
 clear hlx hS6 hb6 hcap hst6 K6 HSP
 go_upto_region 9 with (first
  | (refine x0J rfl 9 _ _ rfl g5 1 128 _ (.string (strOf nm)) rfl rfl HK6.out (by simp) (by kernel_rfl) rfl ?_; intro w7 K7 o7 s7)
  | (refine x0J rfl 39 _ _ rfl g5 2 128 _ (.slice A1 l.length c1) rfl rfl K7 (by simp) (by kernel_rfl) rfl ?_; intro w8 K8 o8 s8))
 have K8' : Blk w8 g5 128 (chC 1 nm A1 l.length c1 0) := K8
 have ho8 : Only [g5] w6 w8 := o7.trans o8 (Fresh.refl _ _)
 have hb8 : Below w1.heap.size w1 w8 := H6.out.2.2.1.trans (ho8.below (fun q hq => by simp at hq; omega) H6.out.2.2.1.size)
 have hrow8 : ∀ (b size n : Nat) (t : TypeId) (v : Value) (zs : List Value), w6.ownsRow b t size v n zs -> 128 ≠ t -> w8.ownsRow b t size v n zs := fun b size n t v zs hv hne => x0N hv ho8 (fun q hq => by
  simp at hq
  subst hq
  exact Odd.blk HK6.out hne)
 have HROW := kH hrow8
 have hst8 : StepsR w8 w8.heap.size A1 l := ⟨Reads.of_own (hrow8 _ _ _ _ _ _ H6.out.2.1.row (by decide)), fun s hs => by
  obtain ⟨x1, x2, x3⟩ := H6.out.2.1.els s hs
  have h1 := HX.out s.x (by rw [<- H6.out.1]; exact List.mem_map.2 ⟨s, hs, rfl⟩)
  exact ⟨(show Own w8 _ _ _ _ from hrow8 _ _ _ _ _ _ x1 (by decide)).bytes x2, h1.nm.2, h1.at_.1, h1.at_.2, h1.ln.1, h1.ln.2, h1.nm.1, h1.dt.1⟩⟩
 have K18 : Blk w8 w.heap.size 128 chZ := HK1.out.below hb8 HK1.out.lt
 have hS8 : Blk w8.drew g5 128 (chC 1 nm A1 l.length c1 0) /\ ∃ cs, cs.size = 4 /\ Blk w8.drew w.heap.size 128 cs := ⟨K8'.drew, chZ, rfl, K18.drew⟩
 have HK18 := kH K18.drew
 have hll : l.length <= 1000 := by
  have := congrArg List.length H6.out.1
  rw [List.length_map] at this
  omega
 have hbd : Below w8.heap.size w8 w8.drew := x08 (Below.refl _ _) 1
 have htxt := xFE (w := w8.drew) nm hsm hnm (hst8.since hbd) (Nat.le_refl _) (by omega) (by rw [H6.out.1, <- HT.out]; omega) (cs := c1)
 rw [H6.out.1, <- HT.out] at htxt
 have hbw : Below w.heap.size w w8.drew := (HB1.out.trans (hb8.mono HB1.out.size)).trans (hbd.mono (Nat.le_trans HB1.out.size hb8.size))
 have HXT := kH htxt
 have H8 := kH (kA hst8 (kA hb8 hbw))
 clear K7 o7 s7 K8 o8 s8 K8' ho8 hb8 hrow8 hst8 K18 htxt hbw
 refine x09 (fun w' => Blk w' g5 128 (chC 1 nm A1 l.length c1 0) /\ ∃ cs, cs.size = 4 /\ Blk w' w.heap.size 128 cs) 6 (by kernel_rfl) ?_
 refine tL (i := 0) (v := .agg (chC 1 nm A1 l.length c1 0)) rfl rfl (by kernel_rfl) (by rfl) (fun w hw => x33 rfl rfl rfl hw.1) hS8 ?_
 simp only [Act.put, nB, nC, nD, nE, nF, nG]
 refine tL (i := 1) (v := .agg (chC 1 nm A1 l.length c1 0)) rfl rfl (by kernel_rfl) (by rfl) (fun w hw => x33 rfl rfl rfl hw.1) hS8 ?_
 simp only [Act.put, nB, nC, nD, nE, nF, nG]
 refine tL (i := 3) (v := .slice A T.length c) rfl rfl (by kernel_rfl) (by rfl) (fun w hw => by kernel_rfl) hS8 ?_
 simp only [Act.put, nB, nC, nD, nE, nF, nG]
 refine x01 (j := 2) (by kernel_rfl) rfl (by rfl) ?_
 simp only [Act.put, nB, nC, nD, nE, nF, nG]
 refine x03 (by kernel_rfl) HXT.out ?_
 rintro e w9 ⟨v9, rfl, ho9, hb9⟩
 obtain ⟨A9, c9, rfl⟩ := x0H ho9
 have K19 : Blk w9 w.heap.size 128 chZ := HK18.out.below hb9 HK18.out.lt
 have hS9 : Blk w9 g5 128 (chC 1 nm A1 l.length c1 0) /\ ∃ cs, cs.size = 4 /\ Blk w9 w.heap.size 128 cs := ⟨hS8.1.below hb9 hS8.1.lt, chZ, rfl, K19⟩
 have hbw9 : Below w.heap.size w w9 := H8.out.2.2.trans (hb9.mono H8.out.2.2.size)
 have hsmT : Small T := HBY.out.2
 have heq := x7E A9 A T.length T.length c9 c _ _ T T w9 (ho9.bytes hsmT) (HBY.out.since hbw9)
 have hst9 := (H8.out.1.since hbd).since hb9
 refine ⟨_, rfl, hS9, ?_⟩
 simp only [Act.put, nB, nC, nD, nE, nF, nG]
 refine x01 (j := 4) (by kernel_rfl) rfl (by rfl) ?_
 simp only [Act.put, nB, nC, nD, nE, nF, nG]
 refine x03 (by kernel_rfl) heq ?_
 rintro e w' ⟨rfl, hw'⟩
 subst hw'
 refine ⟨_, rfl, hS9, ?_⟩
 simp only [Act.put, nB, nC, nD, nE, nF, nG]
 refine x01 (j := 5) (by kernel_rfl) rfl (by rfl) ?_
 simp only [Act.put, nB, nC, nD, nE, nF, nG]
 refine wp_store_mid 128 _ _ (by rfl) w.heap.size 0 (chC 1 nm A1 l.length c1 0) (by rfl) (by rfl) (K19.there (by simp [chC, chZ])) (by kernel_rfl) (by simp [chC, Value.oneCell']) ?_
 have hov := K19.over (chC 1 nm A1 l.length c1 0).toList (by simp [chC, chZ])
 obtain ⟨w10, hw10⟩ : ∃ w10, w10 = w9.setCells w.heap.size 0 (chC 1 nm A1 l.length c1 0).toList := ⟨_, rfl⟩
 have hon : Only [w.heap.size] w9 w10 := by rw [hw10]; exact (Only.refl _ _).grown (x0F _ _ 0 w9).1 (fun k e => .inl (by injection e with e; simp [e]))
 have K10 : Blk w10 w.heap.size 128 (chC 1 nm A1 l.length c1 0) := by rw [hw10]; exact hov
 rw [<- hw10]
 have K10' : Blk w10 g5 128 (chC 1 nm A1 l.length c1 0) := hS9.1.of (hon.block _ hS9.1.lt (by simp; omega))
 have hrow10 : ∀ (b size n : Nat) (t : TypeId) (v : Value) (zs : List Value), w6.ownsRow b t size v n zs -> 128 ≠ t -> w10.ownsRow b t size v n zs := fun b size n t v zs hv hne => by
  have h8 := HROW.out b size n t v zs hv hne
  have h9 : w9.ownsRow b t size v n zs := x05 h8 (fun q hq => (hb9.block q (x02 h8 q hq)))
  exact x0N h9 hon (fun q hq => by
   simp at hq
   subst hq
   exact Odd.blk K19 hne)
 have hst10 : StepsR w10 w10.heap.size A1 l := ⟨Reads.of_own (hrow10 _ _ _ _ _ _ H6.out.2.1.row (by decide)), fun s hs => by
  obtain ⟨x1, x2, x3⟩ := H6.out.2.1.els s hs
  have h1 := HX.out s.x (by rw [<- H6.out.1]; exact List.mem_map.2 ⟨s, hs, rfl⟩)
  exact ⟨(show Own w10 _ _ _ _ from hrow10 _ _ _ _ _ _ x1 (by decide)).bytes x2, h1.nm.2, h1.at_.1, h1.at_.2, h1.ln.1, h1.ln.2, h1.nm.1, h1.dt.1⟩⟩
 have hb10 : Below w.heap.size w w10 := hbw9.trans (hon.below (fun q hq => by simp at hq; omega) hbw9.size)
 have H10 := kH (kA hst10 hb10)
 have HK10 := kH K10
 refine ⟨⟨K10', _, rfl, K10⟩, ?_⟩
 simp only [Act.put, nB, nC, nD, nE, nF, nG]
 refine x1V (by kernel_rfl) rfl (by rfl) (by kernel_rfl) ?_
 simp only [Act.put, nB, nC, nD, nE, nF, nG]
 refine x0B (v := .bool (T == T)) (w' := w10) (by kernel_rfl) ?_
 refine NoPanic.normal ?_
 simp only [Act.put, nB, nC, nD, nE, nF, nG]
 clear hS8 K19 hb9 hS9 hbw9 heq hst9 hov hon K10 K10' hrow10 hst10 hb10 ho9
 have hTT : (T == T) = true := by simp
 rw [hTT]
 go_wp2
 refine bodyPost_ret (x7U rfl _ _ w.heap.size 128 (chC 1 nm A1 l.length c1 0) (0, 0) _ _ rfl rfl HK10.out Tryz.underlying128 rfl (by kernel_rfl)) rfl ?_
 exact ⟨A1, c1, l, rfl, H6.out.1, H10.out.1, H6.out.2.2.2.1, H10.out.2⟩
end
section
open Go.RowKit Go.BigFrame
set_option maxHeartbeats 8000000 in
theorem xIQ {w : World} {Z : List Nat} {gs ms gp r c0 n0 B c : Nat} {A A0 : Option Addr} {M M' : Mod} {kv : KV} {told : List (List Nat)} (h : StoreAt w Z gs ms gp r c0 A0 M kv) (hZ : ms ∈ Z) (hZl : ∀ z ∈ Z, z < w.heap.size) (hI : Inv n0 M) (hn0 : n0 <= 900000) (nm : List Nat) (xs : List StepV) (hsm : Small nm) (hnm : nm.length <= 1000000) (hx : ∀ x ∈ xs, StepOk x) (hn : xs.length <= 1000) (hlen : (opB nm xs).length <= 1000000) (hb : Bytes w B A (opB nm xs).length (opB nm xs)) (hB : B <= w.heap.size) (hr : DoR M nm xs M' 0 told) :
  Calls Tryz.prog 74 #[.pointer (some ⟨gs, 0, none⟩), .slice A (opB nm xs).length c] w fun e w' => e = .returned (.bool true) /\ ∃ kv', StoreAt w' Z gs ms gp r c0 A0 M' kv' /\ Only (ms :: foot gp r M.fl) w w' := by
 have HC := kH (xF6 nm xs hsm hnm hx hn hlen hb hB (c := c))
 have HH := kH h
 have HR := kH hr
 clear h hr hb hx
 go_enter Tryz.func74, Tryz.ntmps74
 go_wp2_with fail
 refine HC.out.mono ?_
 rintro e w2 ⟨A1, c1, l, rfl, hlx, hst, hcap, hb2⟩
 have hll : l.length <= 1000 := by
  have := congrArg List.length hlx
  rw [List.length_map] at this
  omega
 have hb3 : Below w2.heap.size w2 (w2.alloc (.cells #[.int .u8 1, .string (strOf nm), .slice A1 l.length c1, .int .i64 0] 128)) := x06 _ _
 have K3 : Blk (w2.alloc (.cells #[.int .u8 1, .string (strOf nm), .slice A1 l.length c1, .int .i64 0] 128)) w2.heap.size 128 (chC 1 nm A1 l.length c1 0) := Blk.new _ _ _
 obtain ⟨w3, hw3⟩ : ∃ w3, w3 = w2.alloc (.cells #[.int .u8 1, .string (strOf nm), .slice A1 l.length c1, .int .i64 0] 128) := ⟨_, rfl⟩
 rw [<- hw3] at hb3 K3
 have hb03 : Below w.heap.size w w3 := hb2.trans (hb3.mono hb2.size)
 have HD := kH (xCX (HH.out.below hb03) hZ (fun z hz => Nat.lt_of_lt_of_le (hZl z hz) hb03.size) hI hn0 nm hsm hnm (hst.since hb3) hb3.size hcap (by omega))
 have HB3 := kH hb03
 have HK3 := kH K3
 have HW3 := kH hw3
 have HLX := kH hlx
 clear hb3 K3 hw3 hb03 hlx hst hcap hb2 HC
 unfold chC
 go_wp2_with (first | rw [<- HW3.out] | (refine x1U rfl (.tmp 5) rfl w2.heap.size rfl (chC 1 nm A1 l.length c1 0) rfl HK3.out ?_))
 refine HD.out.mono ?_
 rintro e w5 ⟨w4, hb4, hon, M1, kk, told1, v, kv', hr1, hst1, rfl, ht1⟩
 rw [HLX.out] at hr1
 obtain ⟨rfl, rfl, rfl⟩ := xOP hr1 HR.out
 have HF := kH (kA hst1 (((Only.of_below HB3.out _).trans (Only.of_below hb4 _) (Fresh.refl _ _)).trans hon (Fresh.refl _ _)))
 clear hst1 hon hr1 ht1 hb4 HD
 simp only [errV]
 go_wp2
 go_ret
 exact ⟨rfl, kv', HF.out.1, HF.out.2⟩
end
section
open Go.RowKit Go.Shelf Go.BigFrame
attribute [local go_sem] Oper.semAt_some
def StaysN {β : Type} (J : β -> World -> Prop) : Prop := ∀ s W W', J s W -> W.grownBy W' none -> J s W'
def OwnL {β : Type} (B : Nat) (I : β -> World -> Prop) : Prop :=
  ∀ s W W' row, I s W -> W.grownBy W' row -> (∀ r, row = some r -> B <= r /\ ∃ o : Obj, W.heap[r]? = some o /\ o.isCells = false /\ o.isWalk = false) -> I s W'
theorem OwnL.putObj {β : Type} {B : Nat} {I : β -> World -> Prop} (h : OwnL B I) {s : β} {W : World} {l : Nat} {o : Obj} (o' : Obj) (hs : I s W) (hB : B <= l) (hl : W.heap[l]? = some o) (ho : o.isCells = false) (hw : o.isWalk = false) : I s (W.putObj l o') :=
  h s W _ (some l) hs (grownBy_putObj' W l o') (fun r e => by cases e; exact ⟨hB, o, hl, ho, hw⟩)
theorem OwnL.alloc {β : Type} {B : Nat} {I : β -> World -> Prop} (h : OwnL B I) {s : β} {W : World} (o : Obj) (hs : I s W) : I s (W.alloc o) :=
  h s W _ none hs (World.grownBy_alloc W o none) (fun r e => by cases e)
def GoesOn {α : Type} (B : Nat) (Kp : World -> World -> Prop) (I : List α -> World -> Prop) (xs : List α) (W : World) : Exit -> Act -> World -> Prop
 | .normal, _, W' => KeepsFrom B W W' /\ Kp W W' /\ I xs W'
 | _, _, _ => False
def Gives {α : Type} (F : Fence) (n : Nat) (P : Program) (gf : Nat) (lb : Array Value) (encs : α -> Array Value) (N : Nat) (G : List α -> α -> World -> Prop) (S : List α -> World -> Prop) (Kp : World -> World -> Prop) (w : World) : Prop :=
 ∀ (l : Nat) (J : List α -> World -> Prop) (W : World), Below w.heap.size w W -> StaysN J →
  (∀ pre x W1, J pre W1 -> G pre x W1 -> pre.length < N -> YieldAt F (n - 1) P l (encs x) W1 fun e W' => e = .returned (.bool true) /\ J (pre ++ [x]) W' /\ Kp W1 W') -> J [] W →
  CallsIn F n P gf (#[.func (.yield l) #[] #[]] ++ lb) W fun e W' => (∃ v, e = .returned v) /\ ∃ xs, S xs W' /\ J xs W'
section
variable {F : Fence} {n : Nat} {P : Program}
theorem xEQ {α : Type} {g : Operand} {ps : Array Tmp} {assign body : Code} {Q : Exit -> Act -> World -> Prop} {a : Act} {w : World}
  (hro : F.round = none) (h1 : 1 <= n) {gf : Nat} {lb : Array Value} (hg : a.eval g = .func (.func gf) #[] lb) (hFg : F.fn gf) (eg : ∀ args w, (callFunc gf args).run P w = .ok (.enter gf args) w)
  {encs : α -> Array Value} (hps : ∀ x, (encs x).size = ps.size) {N : Nat} {S : List α -> World -> Prop} {G : List α -> α -> World -> Prop} {Kp : World -> World -> Prop} (hseq : Gives F (n - 1) P gf lb encs N G S Kp w)
  (I : List α -> World -> Prop) (hI : OwnL w.heap.size I) (hS : OwnFrom w.heap.size S) (hG : ∀ pre x, OwnFrom w.heap.size (fun (_ : Unit) W => G pre x W))
  (hKt : ∀ {A B C : World}, Kp A B -> Kp B C -> Kp A C) (hKb : ∀ (W : World) (l : Nat) (o o' : Obj), w.heap.size <= l -> W.heap[l]? = some o -> o.isCells = false -> Kp W (W.putObj l o'))
  (h0 : I [] w) (a₁ : α -> Act)
  (hassign : ∀ (l : Nat) (x : α) (W : World) (K : Act -> World -> Prop), K (a₁ x) W →
   assign.wpIn (F.inRound l) (n - 1 - 1) P (Exit.then K (fun _ _ _ => False)) { tmps := (ps.zip (encs x)).foldl (fun t (p, v) => t.setIfInBounds p v) a.tmps, defers := [] } W)
  (hbody : ∀ (l : Nat) (pre : List α) (x : α) (W : World), w.heap.size <= l -> (∃ r, W.heap[l]? = some (.loop r)) -> I pre W -> G pre x W -> pre.length < N -> body.wpIn (F.inRound l) (n - 1 - 1) P (GoesOn w.heap.size Kp I (pre ++ [x]) W) (a₁ x) W)
  (hdone : ∀ (D : Nat) (xs : List α) (W : World), w.heap.size <= D -> S xs W -> I xs W -> W.heap[D]? = some (.deferred (some [])) -> Q .normal { a with defers := { target := .collected D, args := #[] } :: a.defers } W) :
  (Code.rangeFunc g ps assign body).wpIn F n P Q a w := by
 refine wpIn_rangeFunc fun fn hfn => ?_
 rw [hro]
 obtain ⟨L, hL⟩ : ∃ L : LoopState -> Loop, L = fun st => { state := st, pending := none, fn := fn, tmps := a.tmps, params := ps, assign := assign, body := body, defers := w.heap.size } := ⟨_, rfl⟩
 have hen := run_enterLoop_outer (P := P) (w := w) fn a.tmps ps assign body
 have hloop : (w.alloc (.deferred (some []))).alloc (.loop { state := .ready, pending := none, fn := fn, tmps := a.tmps, params := ps, assign := assign, body := body, defers := w.heap.size }) = (w.alloc (.deferred (some []))).alloc (.loop (L .ready)) := by rw [hL]
 rw [hloop] at hen
 have s1 : (w.alloc (.deferred (some []))).heap.size = w.heap.size + 1 := by simp
 have hl1 : ((w.alloc (.deferred (some []))).alloc (.loop (L .ready))).heap[w.heap.size + 1]? = some (.loop (L .ready)) := by
  have := World.alloc_heap_new (w.alloc (.deferred (some []))) (.loop (L .ready))
  rwa [s1] at this
 have hd1 : ((w.alloc (.deferred (some []))).alloc (.loop (L .ready))).heap[w.heap.size]? = some (.deferred (some [])) :=
  (Below.heap_alloc _ _ _ (by rw [s1]; omega)).trans (World.alloc_heap_new w _)
 have hi1 : I [] ((w.alloc (.deferred (some []))).alloc (.loop (L .ready))) := hI.alloc _ (hI.alloc _ h0)
 have hb1 : Below w.heap.size w ((w.alloc (.deferred (some []))).alloc (.loop (L .ready))) := ((Below.refl _ w).alloc (Nat.le_refl _) _).alloc (by rw [s1]; omega) _
 have s2 : ((w.alloc (.deferred (some []))).alloc (.loop (L .ready))).heap.size = w.heap.size + 2 := by simp
 generalize (w.alloc (.deferred (some []))).alloc (.loop (L .ready)) = W1 at *
 have hset : ∀ (W : World) (st : LoopState) (o : Obj), W.heap[w.heap.size + 1]? = some (.loop (L st)) -> (W.putObj (w.heap.size + 1) o).heap[w.heap.size + 1]? = some o := fun W st o h => World.putObj_heap_same (Array.getElem?_eq_some_iff.1 h).1
 have hstay : ∀ (W : World) (o : Obj), (W.putObj (w.heap.size + 1) o).heap[w.heap.size]? = W.heap[w.heap.size]? := fun W o => World.putObj_heap_other (by omega)
 refine ⟨w.heap.size + 1, [{ target := .collected w.heap.size, args := #[] }], W1, { target := .fn (.func gf) lb, args := #[.func (.yield (w.heap.size + 1)) #[] #[]] }, W1, gf, #[.func (.yield (w.heap.size + 1)) #[] #[]] ++ lb, W1, hen, ?_, ?_, ?_, fun _ => h1, ?_⟩
 ·simp only [resolve, hg]
  simp [go_sem]
 ·intro f' hf'
  simp [Target.leads] at hf'
  subst hf'
  exact hFg
 ·simp [invoke, go_sem, eg]
 ·refine (hseq (w.heap.size + 1) (fun pre W => I pre W /\ W.heap[w.heap.size + 1]? = some (.loop (L .ready)) /\ W.heap[w.heap.size]? = some (.deferred (some []))) W1 hb1 ?_ ?_ ⟨hi1, hl1, hd1⟩).mono ?_
  ·rintro s A B ⟨x1, x2, x3⟩ hgr
   have hlt := (Array.getElem?_eq_some_iff.1 x2).1
   exact ⟨hI s A B none x1 hgr (fun r e => by cases e), (hgr.block _ hlt (fun e => by cases e)).trans x2, (hgr.block _ (by omega) (fun e => by cases e)).trans x3⟩
  ·rintro pre x W ⟨hi, hl, hd⟩ hGx hlen
   have hy := run_yield (P := P) (args := encs x) hl (by rw [hL]; exact hps x)
   rw [hL] at hy
   refine ⟨fn, _, assign, body, hy, roundIn_of_wpIn hfn (hassign _ x W _ ⟨_, run_beginRound hl (by rw [hL]), ?_⟩)⟩
   have hbz : ({ L .ready with state := .busy } : Loop) = L .busy := by rw [hL]
   rw [hbz]
   have hl2 := hset W _ (.loop (L .busy)) hl
   have hd2 := (hstay W (.loop (L .busy))).trans hd
   refine wpIn_mono (hbody _ pre x _ (by omega) ⟨_, hl2⟩ (hI.putObj _ hi (by omega) hl rfl rfl) ((hG pre x).putObj (s := ()) _ hGx (by omega) hl rfl) hlen) ?_
   rintro e a3 W3 hp
   cases e with
   | normal =>
    obtain ⟨k3, kp3, i3⟩ := hp
    have hl3 := k3.same _ _ (by omega) hl2 rfl
    have hd3 := k3.same _ _ (Nat.le_refl _) hd2 rfl
    have hr := run_endRound (P := P) none hl3
    have hrz : ({ L .busy with state := if (none : Option Code).isNone then .ready else .done, pending := none } : Loop) = L .ready := by rw [hL]; rfl
    rw [hrz] at hr
    exact ⟨_, _, hr, rfl, ⟨hI.putObj _ i3 (by omega) hl3 rfl rfl, hset W3 _ _ hl3, (hstay W3 _).trans hd3⟩, hKt (hKb _ _ _ _ (by omega) hl rfl) (hKt kp3 (hKb _ _ _ _ (by omega) hl3 rfl))⟩
   | _ => exact hp.elim
  ·rintro e W2 ⟨⟨v, rfl⟩, xs, hs, hi, hl, hd⟩
   have hend := run_endLoop (P := P) hl (by rw [hL]; simp)
   exact ⟨none, _, by rw [hend, hL], hdone _ xs _ (Nat.le_refl _) (hS.putObj _ hs (by omega) hl rfl) (hI.putObj _ hi (by omega) hl rfl rfl) ((hstay W2 _).trans hd)⟩
end
structure TxV where
 i : Nat
 A : Option Addr
 n : Nat
 c : Nat
def TxV.v (x : TxV) : Value := .slice x.A x.n x.c
def TxV.enc (x : TxV) : Array Value := #[.int .i64 (x.i : Int), x.v]
def KeepT (Ks : List Nat) (w w' : World) : Prop := w.heap.size <= w'.heap.size /\ (∀ k ∈ Ks, w'.heap[k]? = w.heap[k]?) /\ ∀ (k : Nat) (cs : Array Value) (f : Nat × Nat), w.heap[k]? = some (Obj.cells cs 5 f) -> w'.heap[k]? = some (Obj.cells cs 5 f)
theorem KeepT.refl (Ks : List Nat) (w : World) : KeepT Ks w w := ⟨Nat.le_refl _, fun _ _ => rfl, fun _ _ _ h => h⟩
theorem KeepT.trans {Ks : List Nat} {a b c : World} (h : KeepT Ks a b) (h' : KeepT Ks b c) : KeepT Ks a c := ⟨Nat.le_trans h.1 h'.1, fun k hk => (h'.2.1 k hk).trans (h.2.1 k hk), fun k cs f hc => h'.2.2 k cs f (h.2.2 k cs f hc)⟩
theorem KeepT.below {Ks : List Nat} {w w' : World} (hb : Below w.heap.size w w') (hK : ∀ k ∈ Ks, k < w.heap.size) : KeepT Ks w w' := ⟨hb.size, fun k hk => hb.block k (hK k hk), fun k cs f h => (hb.block k (Array.getElem?_eq_some_iff.1 h).1).trans h⟩
theorem KeepT.put {Ks : List Nat} {w : World} {l : Nat} {o o' : Obj} (hK : ∀ k ∈ Ks, k < l) (hl : w.heap[l]? = some o) (ho : o.isCells = false) : KeepT Ks w (w.putObj l o') :=
 ⟨by simp, fun k hk => World.putObj_heap_other (by have := hK k hk; omega), fun k cs f h => by
  by_cases e : k = l
  ·subst e
   rw [hl] at h
   injection h with h
   subst h
   cases ho
  ·rw [World.putObj_heap_other e]; exact h⟩
theorem Own.keepT {Ks : List Nat} {w w' : World} {base : Nat} {v : Value} {n : Nat} {bs : List Nat} (h : Own w base v n bs) (hk : KeepT Ks w w') : Own w' base v n bs := by
 refine x05 h (fun k hk' => ?_)
 rcases h.2 with ⟨rfl, _⟩ | ⟨g, cap, cur, rfl, _, hh, _⟩
 ·have := x00.1 hk'; simp [Value.ownBlock] at this
 ·have hg : k = g := by have := x00.1 hk'; simp [Value.ownBlock] at this; exact this.symm
  subst hg
  rw [hh]
  exact hk.2.2 k cur (0, 0) hh
def TxOf (txs : List (List Nat)) (B : Nat) (pre : List TxV) (x : TxV) (w : World) : Prop := x.i = pre.length /\ ∃ t, txs[x.i]? = some t /\ x.n = t.length /\ Own w B x.v t.length t
def TxsCame (txs : List (List Nat)) (B m : Nat) (xs : List TxV) (w : World) : Prop := xs.length = m /\ ∀ i t, i < m -> txs[i]? = some t -> ∃ x, xs[i]? = some x /\ x.i = i /\ x.n = t.length /\ Own w B x.v t.length t
theorem xNG {w : World} {gj n g gen u : Nat} {vs : Value} {A : Option Addr} {m c : Nat} {stuck : Bool} (hJ : Blk w gj 176 (jcells n g gen vs (.slice A m c) u stuck)) :
  Calls Tryz.prog 73 #[.pointer (some ⟨gj, 0, none⟩)] w fun e w' => e = .returned (.func (.func 125) #[] #[.pointer (some ⟨w.heap.size, 0, none⟩)]) /\ Below w.heap.size w w' /\ Boxed w' w.heap.size 42 (.slice A m c) /\ w'.heap.size = w.heap.size + 1 := by
 have q5 : ∀ o, (w.alloc o).cell? ⟨gj, 5, none⟩ = some (.slice A m c) := fun o => (hJ.alloc o).cell 5
 clear hJ
 go_enter Tryz.func73, Tryz.ntmps73
 go_wp2
 go_ret
 refine ⟨rfl, ?_, ?_, ?_⟩
 ·exact (Below.refl _ _).alloc (Nat.le_refl _) _
 ·exact Boxed.new w _ _
 ·simp
set_option maxHeartbeats 4000000 in
theorem xG4 (n₀ Bs base : Nat) (vt : Value) (txs : List (List Nat)) (us : List Value) (w : World) (hn₀ : n₀ <= w.heap.size) (hBs : Bs < w.heap.size) (hx : Boxed w Bs 42 vt) (ht : TxRows w base vt txs us) (h256 : ∀ t ∈ txs, ∀ b ∈ t, b < 256) (hmany : txs.length <= 100000) (hlong : ∀ t ∈ txs, t.length <= 20000) :
    Gives Fence.wide 4 Tryz.prog 125 #[.pointer (some ⟨Bs, 0, none⟩)] TxV.enc txs.length (TxOf txs n₀) (TxsCame txs n₀ txs.length) (KeepT (Bs :: txBlks vt us)) w := by
  intro l J W hW hJ HY hJ0
  have hro : Fence.wide.round = none := rfl
  obtain ⟨A, c, rfl⟩ := x0H ht.1
  have hXW := kH (show Boxed W Bs 42 (.slice A txs.length c) from (hW.block Bs hBs).trans hx)
  have hTW := kH (ht.of (w' := W) (fun k hk => hW.block k (ht.over k hk).2))
  have hKl := kH (show ∀ k ∈ Bs :: txBlks (.slice A txs.length c) us, k < w.heap.size from fun k hk => by
    rcases List.mem_cons.1 hk with rfl | hk
    · exact hBs
    · exact (ht.over k hk).2)
  have hsW := hW.size
  have hcl := hXW.out.cell
  have HJ := kH hJ
  have HY := kH HY
  have HLO := kH hlong
  have H256 := kH h256
  clear hJ hx ht hlong h256 hW
  refine callsIn_of_wp Tryz.func125 rfl trivial ?_ hro
  simp only [Tryz.ntmps125, List.size_toArray, List.length_cons, List.length_nil, Nat.reduceAdd, Nat.reduceSub, Array.replicate_succ, Array.replicate_zero, List.push_toArray, List.append_toArray, List.nil_append, List.cons_append]
  gi_wp2
  clear hcl
  gi_loopw [3, 4, 7] (fun a b i wr => ∃ (k : Nat) (xs : List TxV), k <= txs.length /\ i = .int .i64 k /\ J xs wr /\ TxsCame txs n₀ k xs wr /\ KeepT (Bs :: txBlks (.slice A txs.length c) us) W wr) (fun _ _ i _ => txs.length - (intOf i).toNat)
  case atStart => exact ⟨0, [], Nat.zero_le _, rfl, hJ0, ⟨rfl, fun i t h => absurd h (Nat.not_lt_zero _)⟩, KeepT.refl _ _⟩
  case round =>
    obtain ⟨k, xs, hk, rfl, hJs, hcame, hkp⟩ := hrel
    by_cases hlt : k < txs.length
    · have hTr := hTW.out.of (w' := wr) (fun q hq => hkp.2.1 q (List.mem_cons_of_mem _ hq))
      have hx0 : txs[k]? = some (txs[k]'hlt) := List.getElem?_eq_getElem _
      have hmem : txs[k]'hlt ∈ txs := List.getElem_mem _
      generalize txs[k]'hlt = t at *
      have htl := HLO.out t hmem
      have ht256 := H256.out t hmem
      obtain ⟨ad, u, hA, -, hu, hc⟩ := (Reads.of_own hTr.1).at_ hlt
      subst hA
      obtain ⟨B, cc, e1, ho⟩ := hTr.2.2 k t hx0
      rw [e1] at hu
      injection hu with hu
      subst hu
      have HO := kH (ho.bytes ht256)
      have hk0 : (0 : Int) <= (k : Int) := by omega
      have hk1 : (k : Int) < (txs.length : Int) := by omega
      have HS := kH (kA hJs (kA hcame (kA hkp hx0)))
      have hsr := hkp.1
      clear hJs hcame hkp hx0 hTr ho e1 hmem
      gi_wp2_with (refine ⟨trivial, ?_⟩
                   gi_at_call 105
                   refine (callsIn_wide.2 (x0P B t.length cc t _ _ (by omega) HO.out)).mono ?_
                   rintro e W2 ⟨v2, rfl, ho2, b2⟩
                   obtain ⟨A2, c2, rfl⟩ := x0H ho2
                   have g2 : wr.grownBy W2 none := ⟨b2.os, b2.tape, b2.output, b2.size, fun i hi _ => b2.block i hi⟩
                   have hJ2 := HJ.out xs wr W2 HS.out.1 g2
                   have HK2 := kH (show KeepT (Bs :: txBlks (.slice (some ad) txs.length c) us) wr W2 from KeepT.below b2 (fun q hq => by have := hKl.out q hq; omega))
                   have HO3 := kH (show Own W2 n₀ (.slice A2 t.length c2) t.length t from ho2.weaken (by omega))
                   obtain ⟨fn, tmps, assign, body, hy, hR⟩ := HY.out xs ⟨k, A2, t.length, c2⟩ W2 hJ2 ⟨HS.out.2.1.1.symm, t, HS.out.2.2.2, rfl, HO3.out⟩ (by rw [HS.out.2.1.1]; exact hlt)
                   clear g2 hJ2 ho2 b2
                   dsimp only [TxV.enc, TxV.v] at hy)
      refine hR.mono ?_
      rintro e W3 ⟨rfl, hJ3, hk3⟩
      have HJ3 := kH (kA hJ3 hk3)
      clear hJ3 hk3 hR
      gi_wp2
      go_roundw
      case rel =>
        refine ⟨k + 1, _, by omega, by go_num, HJ3.out.1, ?_, HS.out.2.2.1.trans (HK2.out.trans HJ3.out.2)⟩
        have hl := HS.out.2.1.1
        refine ⟨by simp [hl], fun i t' hi ht' => ?_⟩
        by_cases e : i < k
        · obtain ⟨x, y1, y2, y3, y4⟩ := HS.out.2.1.2 i t' e ht'
          exact ⟨x, by rw [List.getElem?_append_left (by omega)]; exact y1, y2, y3, (y4.keepT HK2.out).keepT HJ3.out.2⟩
        · obtain rfl : i = k := by omega
          obtain rfl : t = t' := Option.some.inj (HS.out.2.2.2.symm.trans ht')
          exact ⟨⟨i, A2, t.length, c2⟩, by rw [List.getElem?_append_right (by omega), hl]; simp, rfl, rfl, HO3.out.keepT HJ3.out.2⟩
      case measure => simp [intOf]; omega
    · obtain rfl : k = txs.length := by omega
      gi_wp2
      go_end0
      exact ⟨⟨_, rfl⟩, xs, hcame, hJs⟩
end
section
open Go.RowKit Go.Shelf Go.BigFrame
attribute [local go_sem] Oper.semAt_some
inductive Redo : Mod -> List Nat -> Mod -> Prop
  | op {nm : List Nat} {xs : List StepV} {M M' : Mod} {told : List (List Nat)} : Small nm -> nm.length <= 1000000 -> (∀ x ∈ xs, StepOk x) -> xs.length <= 1000 -> DoR M nm xs M' 0 told -> Redo M (opB nm xs) M'
inductive Redos : Mod -> List (List Nat) -> Mod -> Prop
 | nil {M : Mod} : Redos M [] M
 | snoc {M M' M'' : Mod} {txs : List (List Nat)} {tx : List Nat} : Redos M txs M' -> Redo M' tx M'' -> Redos M (txs ++ [tx]) M''
theorem Redo.inv {M M' : Mod} {tx : List Nat} {n : Nat} (h : Redo M tx M') (hI : Inv n M) : M'.fl.length = M.fl.length /\ Inv (n + 16) M' := by
 cases h with
 | op _ _ _ _ hd =>
  obtain ⟨a, b, c⟩ := x76 hI hd
  exact ⟨b, a⟩
theorem Redos.cut {M M' : Mod} {txs : List (List Nat)} (h : Redos M txs M') : ∀ k t, txs[k]? = some t -> ∃ M1 M2, Redos M (txs.take k) M1 /\ Redo M1 t M2 /\ Redos M (txs.take (k + 1)) M2 := by
 induction h with
 | nil => intro k t h; simp at h
 | @snoc M' M'' txs tx h0 h1 ih =>
  intro k t hk
  by_cases hlt : k < txs.length
  ·rw [List.getElem?_append_left hlt] at hk
   obtain ⟨M1, M2, a1, a2, a3⟩ := ih k t hk
   exact ⟨M1, M2, by rw [List.take_append_of_le_length (by omega)]; exact a1, a2, by rw [List.take_append_of_le_length (by omega)]; exact a3⟩
  ·have hl := (List.getElem?_eq_some_iff.1 hk).1
   rw [List.length_append, List.length_singleton] at hl
   obtain rfl : k = txs.length := by omega
   have ht : t = tx := by
    rw [List.getElem?_append_right (Nat.le_refl _)] at hk
    simpa using hk.symm
   subst ht
   exact ⟨M', M'', by rw [List.take_left]; exact h0, h1, by rw [List.take_of_length_le (by simp)]; exact .snoc h0 h1⟩
theorem xCO {w W W' : World} {B base n : Nat} {e : TypeId} {v : Value} {xs : List Value} {row : Option Nat} (h : W.ownsRow base e 1 v n xs) (hg : W.grownBy W' row) (hr : ∀ r, row = some r -> B <= r /\ ∃ o : Obj, W.heap[r]? = some o /\ o.isCells = false) : W'.ownsRow base e 1 v n xs := by
 refine World.ownsRow.kept h hg ?_
 rcases hv : v.ownBlock with _ | b
 ·exact .inl rfl
 ·right
  intro e1
  obtain ⟨-, o, ho, hc⟩ := hr b e1.symm
  exact xC7 h ho hc hv
theorem Redos.fn {M M' : Mod} {txs : List (List Nat)} (h : Redos M txs M') : ∃ f : Nat -> Mod, f 0 = M /\ f txs.length = M' /\ ∀ k t, txs[k]? = some t -> Redo (f k) t (f (k + 1)) := by
 induction h with
 | nil => exact ⟨fun _ => M, rfl, rfl, fun k t h => by simp at h⟩
 | @snoc M' M'' txs tx _ h1 ih =>
  obtain ⟨f, a1, a2, a3⟩ := ih
  refine ⟨fun k => if k <= txs.length then f k else M'', ?_, ?_, fun k t hk => ?_⟩
  ·simp [a1]
  ·simp only [List.length_append, List.length_singleton]
   rw [if_neg (by omega)]
  ·by_cases hlt : k < txs.length
   ·rw [List.getElem?_append_left hlt] at hk
    have h2 := a3 k t hk
    simp only
    rw [if_pos (by omega), if_pos (by omega)]
    exact h2
   ·have hl := (List.getElem?_eq_some_iff.1 hk).1
    rw [List.length_append, List.length_singleton] at hl
    obtain rfl : k = txs.length := by omega
    have ht : t = tx := by
     rw [List.getElem?_append_right (Nat.le_refl _)] at hk
     simpa using hk.symm
    subst ht
    simp only
    rw [if_pos (Nat.le_refl _), if_neg (by omega), a2]
    exact h1
theorem xI0 {f : Nat -> Mod} {txs : List (List Nat)} {n : Nat} (h0 : Inv n (f 0)) (h : ∀ k t, txs[k]? = some t -> Redo (f k) t (f (k + 1))) : ∀ k, k <= txs.length -> Inv (n + 16 * k) (f k) /\ (f k).fl.length = (f 0).fl.length
 | 0, _ => ⟨by simpa using h0, rfl⟩
 | k + 1, hk => by
  obtain ⟨a1, a2⟩ := xI0 h0 h k (by omega)
  obtain ⟨b1, b2⟩ := (h k _ (List.getElem?_eq_getElem (by omega))).inv a1
  exact ⟨b2.mono (by omega), b1.trans a2⟩
theorem StoreAt.loop {w w' : World} {Z : List Nat} {gs ms gp r c : Nat} {A : Option Addr} {M : Mod} {kv : KV} {G : List Nat} (h : StoreAt w Z gs ms gp r c A M kv) (ho : Only G w w') (hG : ∀ k ∈ G, ∃ o : Obj, w.heap[k]? = some o /\ o.isCells = false /\ o.isWalk = false) : StoreAt w' Z gs ms gp r c A M kv := by
 have hodd : ∀ k ∈ G, ∀ t, Odd w t k := fun k hk t cs hb => by
  obtain ⟨o, h1, h2, _⟩ := hG k hk
  have h3 := h1.symm.trans hb
  injection h3 with h3
  subst h3
  cases h2
 have hmap : ∀ {P : Program} {kt : TypeId} {b : Nat} {l : KV}, SMap P kt w b l -> b ∉ G := fun {P kt b l} hs hm => by
  obtain ⟨o, h1, _, h3⟩ := hG b hm
  obtain ⟨es, ck, h4, _⟩ := hs
  have h5 := h1.symm.trans h4
  injection h5 with h5
  subst h5
  cases h3
 refine ⟨h.st.off ho (fun k hk => ⟨fun e => hodd k hk _ _ (e ▸ h.st.blk), fun e => hmap h.st.map (e ▸ hk), fun hf => ?_⟩), h.obs.imp fun p q hr => ⟨hr.1, ?_⟩⟩
 ·rcases x1Q hf with rfl | ⟨hf2, rfl⟩
  ·exact hodd _ hk _ _ h.st.sp.blk
  ·rcases h.st.sp.row with e | ⟨_, cs, hb, _⟩
   ·exact absurd e hf2
   ·exact hodd _ hk _ _ hb
 ·obtain ⟨go, mb, c1, ce, D, E, kv1, e, hmb, hat⟩ := hr.2
  exact ⟨go, mb, c1, ce, D, E, kv1, e, hmb, hat.only ho (fun k hk _ => ⟨hodd k hk _, hodd k hk _, hodd k hk _⟩) (hmap hat.map)⟩
theorem xCR (W : World) (tmps : Array Value) (p q : Nat) (v u : Value) (h2 : tmps.getD 2 undef = .pointer (some ⟨p, 0, none⟩)) (h3 : tmps.getD 3 undef = .pointer (some ⟨q, 0, none⟩)) (hp : Blk W p 31 #[v]) (hq : Blk W q 28 #[u]) : (results Tryz.f24 tmps).run Tryz.prog W = .ok (.tuple #[v, u]) W := by
 have h2' : tmps[2]?.getD undef = .pointer (some ⟨p, 0, none⟩) := by simpa using h2
 have h3' : tmps[3]?.getD undef = .pointer (some ⟨q, 0, none⟩) := by simpa using h3
 have l2 : (loadVar 31 ⟨p, 0, none⟩).run Tryz.prog W = .ok v W := by
  have q : W.cell? ⟨p, 0, none⟩ = some v := hp.cell 0
  go_simp
 have l3 : (loadVar 28 ⟨q, 0, none⟩).run Tryz.prog W = .ok u W := by
  have q : W.cell? ⟨q, 0, none⟩ = some u := hq.cell 0
  go_simp
 unfold results
 rw [Tryz.results24]
 simp [h2', h3', asAddr, l2, l3]
theorem x3J {F : Fence} {nF : Nat} {ops : Array Oper} {rest : List Oper} {o : Oper} {a : Act} {w : World} {Q : Exit -> Act -> World -> Prop} (hgd : o.guard = none) (ty : TypeId) (x y : Operand) (ho : o.op = .store ty x y)
  (g i : Nat) (t : TypeId) (cs : Array Value) (v : Value) (hx : a.eval x = .pointer (some ⟨g, i, none⟩)) (hy : a.eval y = v) (hB : Blk w g t cs) (hs : i < cs.size) (hi : (Tryz.prog.info? ty).map (·.size) = some 1) (h1 : v.oneCell' = true)
  (h : ∀ w', Blk w' g t (cs.setIfInBounds i v) -> Only [g] w w' -> w'.heap.size = w.heap.size -> wpListIn F nF Tryz.prog ops Q rest (a.put o.dst undef) w') : wpListIn F nF Tryz.prog ops Q (o :: rest) a w :=
 wpListIn_plain hgd fun K' hK' => by
  unfold Oper.wpIn
  refine ⟨?_, ?_⟩
  ·simp [Oper.about, ho]
  ·rw [Oper.semAt_plain F _ _ (by rw [ho]; intro c hc'; cases hc')]
   unfold execOp
   simp only [ho, hx, hy, Instr.storeAt, Instr.sureAddr, Sem.run_bind, Sem.run_pure, Result.andThen_ok, x2E w g i ty v (hB.there (by omega)) hi h1]
   exact hK' _ _ (h _ (hB.set_ i v) ((Only.refl _ _).setCell (.inl (by simp)) _) (by simp [World.setCell]))
set_option maxHeartbeats 8000000 in
theorem xME {w0 w : World} {g n : Nat} {F : List Nat} {f : Int -> Sec} {s : Nat} {gen u : Nat} {txs : List (List Nat)} {M0 M : Mod} {k0 : Nat} (hd : DiskAt w w0.heap.size F g (DM.idle n f s 0)) (hb : Below w0.heap.size w0 w) (hn : n <= 500) (hn8 : 8 <= n) (hT : Tab w0) (hw0 : 0 < w0.heap.size)
    (hs : Shows (DM.idle n f s 0) n gen (putM M0) txs u) (hI : Inv k0 M0) (hk0 : k0 <= 100000) (hNN : InvN M0) (hRS : RiseM M0) (hput : (putM M0).length <= 20000) (hp256 : Small (putM M0)) (hR : Redos M0 txs M) (hmany : txs.length <= 1000) (hlong : ∀ t ∈ txs, t.length <= 20000) (h256 : ∀ t ∈ txs, ∀ b ∈ t, b < 256) :
    CallsIn Fence.wide 5 Tryz.prog 24 #[.pointer (some ⟨g, 0, none⟩)] w fun e w' => ∃ x : PX, e = .returned (.tuple #[.pointer (some ⟨x.gq, 0, none⟩), .nilIface]) /\ x.g = g /\ JSo w0 w' n x ⟨f, s, gen, putM M0, txs, u, false, 0⟩ M /\ Blk w' x.gq 113 (poolC x.gj x.gs false) /\ w.heap.size <= x.gq /\ Below w.heap.size w w' := by
  have hdn : (DM.idle n f s 0).n = n := rfl
  have hup : (DM.idle n f s 0).gone = false := rfl
  have hwt : (DM.idle n f s 0).wait.length <= 1000000 := by simp [DM.idle]
  obtain ⟨d, hde⟩ : ∃ d, d = DM.idle n f s 0 := ⟨_, rfl⟩
  rw [<- hde] at hd hs hdn hup hwt
  have hro : Fence.wide.round = none := rfl
  have h1 : 1 <= 5 := by omega
  have HD := kH hd
  have HB := kH hb
  have HTAB := kH (x0O hT hb hw0)
  have HOJ := kH (fun w' (hbl : Below w.heap.size w w') => xDP (x2Z (hd.of (x24 hbl hd.under)) (hb.trans (hbl.mono hb.size))) hdn (by omega) hn8 hup hwt (x0O hT (hb.trans (hbl.mono hb.size)) hw0) hw0 gen (putM M0) (by omega) txs u hs)
  clear hd hb hs
  refine callsIn_of_wp_marks Tryz.func24 rfl trivial ?_ hro
  simp only [Tryz.ntmps24, List.size_toArray, List.length_cons, List.length_nil, Nat.reduceAdd, Nat.reduceSub, Array.replicate_succ, Array.replicate_zero, List.push_toArray, List.append_toArray, List.nil_append, List.cons_append]
  gi_wp2
  have hba : Below w.heap.size w ((w.alloc (.cells #[.pointer none] 31)).alloc (.cells #[.nilIface] 28)) := ((Below.refl _ w).alloc (Nat.le_refl _) _).alloc (by simp) _
  have Ka2 : Blk ((w.alloc (.cells #[.pointer none] 31)).alloc (.cells #[.nilIface] 28)) w.heap.size 31 #[.pointer none] := (Blk.new w _ _).alloc _
  have Ka3 : Blk ((w.alloc (.cells #[.pointer none] 31)).alloc (.cells #[.nilIface] 28)) (w.heap.size + 1) 28 #[.nilIface] := by
    have := Blk.new (w.alloc (.cells #[.pointer none] 31)) 28 #[.nilIface]
    simpa using this
  obtain ⟨wa, hwa⟩ : ∃ wa, wa = (w.alloc (.cells #[.pointer none] 31)).alloc (.cells #[.nilIface] 28) := ⟨_, rfl⟩
  have hsa : wa.heap.size = w.heap.size + 2 := by rw [hwa]; simp
  rw [<- hwa] at hba Ka2 Ka3 ⊢
  clear hwa
  refine ⟨trivial, ?_⟩
  refine (callsIn_wide.2 (HOJ.out _ hba)).mono ?_
  rintro e wb ⟨gj, B, cc, vt, us, rfl, hjh, hjb, hjo, hjt, hbb, hgj⟩
  obtain ⟨A, c, rfl⟩ := x0H hjt.1
  have hbab : Below w.heap.size w wb := hba.trans (hbb.mono hba.size)
  have hbw0 : Below w0.heap.size w0 wb := HB.out.trans (hbab.mono HB.out.size)
  have hFu := HD.out.under
  have hsz := hba.size
  have hJX : JX w0 wb g gj d n gen (putM M0) txs u F B cc (.slice A txs.length c) us := by
    have hw := HB.out.size
    refine ⟨HD.out.of (x24 hbab HD.out.under), hbw0, fun q hq => ?_, hjb, hjo.weaken (by omega), ⟨x0A hjt.1 (by omega), hjt.2.1, fun i t hi => ?_⟩, by omega⟩
    · have hnew : wa.heap.size <= q /\ q < wb.heap.size := by
        rw [List.mem_append, List.mem_append, List.mem_singleton] at hq
        rcases hq with hq | hq | rfl
        · exact hjt.over q hq
        · exact x5F hjo (by unfold putM; simp [x04]; omega) q hq
        · exact ⟨hgj, hjb.lt⟩
      refine ⟨hnew.2, fun hm => ?_⟩
      have := hFu q hm
      omega
    · obtain ⟨B1, c1, x1, x2⟩ := hjt.2.2 i t hi
      exact ⟨B1, c1, x1, x0A x2 (by omega)⟩
  have HJX := kH hJX
  have HNJ : Hid (gj ≠ w.heap.size /\ gj ≠ w.heap.size + 1) := kH ⟨by omega, by omega⟩
  have HNR : Hid (∀ q ∈ rowOf (.slice A txs.length c), w.heap.size + 2 <= q) := kH fun q hq => by have := x0I hjt.1 q hq; omega
  have HBB := kH (kA hbab hbb)
  have HK2 := kH (Ka2.below hbb Ka2.lt)
  have HK3 := kH (Ka3.below hbb Ka3.lt)
  have HSA := kH hsa
  have HJS := kH (xGX hjb (hjo.bytes hp256) hput)
  clear hba Ka2 Ka3 hsa hjh hjb hjo hjt hbb hbab hbw0 hJX
  gi_wp2_with (refine ⟨trivial, ?_⟩
               gi_at_call 72
               refine (callsIn_wide.2 HJS.out).mono ?_
               rintro e wc ⟨vs, rfl, hoc, hbc⟩
               obtain ⟨As, cs, rfl⟩ := x0H hoc
               have HOC := kH (kA (hoc.bytes hp256) hbc)
               clear hoc hbc)
  have hju := HJX.out.under
  have htk := xGS (w := wc) (Z := jf gj (.slice A txs.length c) F) (fun z hz => Nat.lt_of_lt_of_le (hju z hz) HOC.out.2.size) (c := cs) HOC.out.1 (by omega) (fun M1 h1 => by
    have h2 := xFR hI hNN hRS (by omega)
    rw [h2] at h1
    injection h1 with h1
    subst h1
    exact ⟨k0, hI.p, by omega, by omega⟩)
  have HTK := kH htk
  clear htk hju
  refine ⟨trivial, ?_⟩
  refine (callsIn_wide.2 HTK.out).mono ?_
  rintro e wd ⟨hbd, ⟨hno, -⟩ | ⟨M1, gs, ms, gp, r, c1, As1, kv, hyes, rfl, hsod, hg1, hg2, hg3, hg4⟩⟩
  · rw [xFI hI hNN hRS (by omega)] at hno
    cases hno
  rw [xFI hI hNN hRS (by omega)] at hyes
  injection hyes with hyes
  subst hyes
  have hbwd : Below wb.heap.size wb wd := HOC.out.2.trans (hbd.mono HOC.out.2.size)
  have HSO := kH (kA hsod (kA hg1 (kA hg2 (kA hg3 hg4))))
  have HBD := kH hbwd
  have HCS := kH HOC.out.2.size
  clear hsod hg1 hg2 hg3 hg4 hbd hbwd HTK HJS HOC
  gi_wp2
  have hbe : Below wd.heap.size wd (wd.alloc (.cells #[.pointer (some ⟨gs, 0, none⟩)] 36)) := x06 _ _
  have Ke : Blk (wd.alloc (.cells #[.pointer (some ⟨gs, 0, none⟩)] 36)) wd.heap.size 36 #[.pointer (some ⟨gs, 0, none⟩)] := Blk.new _ _ _
  have hse : (wd.alloc (.cells #[.pointer (some ⟨gs, 0, none⟩)] 36)).heap.size = wd.heap.size + 1 := by simp
  obtain ⟨we, hwe⟩ : ∃ we, we = wd.alloc (.cells #[.pointer (some ⟨gs, 0, none⟩)] 36) := ⟨_, rfl⟩
  rw [<- hwe] at hbe Ke hse ⊢
  clear hwe
  have hbbe : Below wb.heap.size wb we := HBD.out.trans (hbe.mono HBD.out.size)
  have htxs := xNG (HJX.out.below hbbe).jb
  have HE := kH (kA hbe (kA Ke hbbe))
  clear hbe Ke hbbe
  refine ⟨trivial, ?_⟩
  refine (callsIn_wide.2 htxs).mono ?_
  rintro e wf ⟨rfl, hbf, hxf, hsf⟩
  have HF := kH (kA hbf hxf)
  clear hbf hxf htxs
  gi_wp2
  obtain ⟨fn, hf0, hfl, hfr⟩ := hR.fn
  have hfi := xI0 (f := fn) (txs := txs) (n := k0) (hf0 ▸ hI) hfr
  have hbwf : Below wb.heap.size wb wf := HE.out.2.2.trans (HF.out.1.mono HE.out.2.2.size)
  have hsf0 : StoreAt wf (ms :: jf gj (.slice A txs.length c) F) gs ms gp r c1 As1 M0 kv := (HSO.out.1.below HE.out.1).below HF.out.1
  have HSF := kH hsf0
  have HFN := kH (kA hf0 (kA hfl (kA hfr hfi)))
  have hjf := HJX.out.below hbwf
  have HJF := kH hjf
  have HKT : Hid (∀ q ∈ (wd.heap.size + 1) :: txBlks (.slice A txs.length c) us, q < wf.heap.size) := kH fun q hq => by
    rcases List.mem_cons.1 hq with rfl | hq
    · omega
    · exact (hjf.tx.over q hq).2
  have HXF := kH HF.out.2
  have hGb : ∀ q ∈ ms :: foot gp r M0.fl, wb.heap.size <= q := fun q hq => by
    have h3 := HSO.out.2.2
    have := HCS.out
    rcases List.mem_cons.1 hq with rfl | hq
    · omega
    · rcases x1Q hq with rfl | ⟨hne, rfl⟩
      · have := h3.2.1; omega
      · have := h3.2.2 hne; omega
  have hGf : ∀ q ∈ ms :: foot gp r M0.fl, q < wd.heap.size := fun q hq => by
    rcases HSO.out.1.kinds hq with rfl | ⟨cs, _, hB⟩ | ⟨cs, _, _, hB⟩
    · exact HSO.out.1.st.map.lt
    · exact hB.lt
    · exact hB.lt
  have HG := kH (kA hGb hGf)
  have hK6 : Blk wf wd.heap.size 36 #[.pointer (some ⟨gs, 0, none⟩)] := HE.out.2.1.below HF.out.1 HE.out.2.1.lt
  have HK6 := kH hK6
  have hZb : ∀ z ∈ ms :: jf gj (.slice A txs.length c) F, z < wf.heap.size := fun z hz => by
    rcases List.mem_cons.1 hz with rfl | hz
    · exact hsf0.st.map.lt
    · exact hjf.under z hz
  have HZB := kH hZb
  have HSE := kH hse
  have hxf : Boxed wf (wd.heap.size + 1) 42 (.slice A txs.length c) := by have := HF.out.2; rwa [hse] at this
  clear hf0 hfl hfr hfi hbwf hsf0 hjf hGb hGf hK6 hZb
  refine xEQ hro h1 (gf := 125) (lb := #[.pointer (some ⟨wd.heap.size + 1, 0, none⟩)]) rfl trivial (enters_of Tryz.func125 (by kernel_rfl) rfl) (encs := TxV.enc) (fun _ => rfl)
    (xG4 wf.heap.size (wd.heap.size + 1) w0.heap.size (.slice A txs.length c) txs us wf (by omega) (by omega) hxf HJF.out.tx h256 (by omega) hlong)
    (fun xs W => ∃ kvk, StoreAt W (ms :: jf gj (.slice A txs.length c) F) gs ms gp r c1 As1 (fn xs.length) kvk /\ Only (ms :: foot gp r M0.fl) wf W) ?own1 ?own2 ?own3 (fun h h' => KeepT.trans h h') (fun W l o o' hl ho hc => KeepT.put (fun k hk => by have := HKT.out k hk; omega) ho hc) ⟨kv, by show StoreAt wf _ gs ms gp r c1 As1 (fn 0) kv; rw [HFN.out.1]; exact HSF.out, Only.refl _ _⟩
    (fun x => { tmps := #[.pointer (some ⟨g, 0, none⟩), undef, .pointer (some ⟨w.heap.size, 0, none⟩), .pointer (some ⟨w.heap.size + 1, 0, none⟩), .pointer (some ⟨gj, 0, none⟩), .nilIface, .pointer (some ⟨wd.heap.size, 0, none⟩), undef, x.v, .tuple #[.pointer (some ⟨gj, 0, none⟩), .nilIface], .pointer (some ⟨g, 0, none⟩), .tuple #[.pointer (some ⟨gj, 0, none⟩), .nilIface], .pointer (some ⟨gj, 0, none⟩), .nilIface, .nilIface, .bool false, undef, .tuple #[.pointer (some ⟨gs, 0, none⟩), .nilIface], .pointer (some ⟨gj, 0, none⟩), .slice As (putM M0).length cs, .tuple #[.pointer (some ⟨gs, 0, none⟩), .nilIface], .pointer (some ⟨gs, 0, none⟩), .nilIface, .nilIface, .bool false, undef, .pointer (some ⟨gj, 0, none⟩), .func (.func 125) #[] #[.pointer (some ⟨wd.heap.size + 1, 0, none⟩)], .int .i64 (x.i : Int), x.v, undef, undef, undef, undef, undef, undef, undef, undef, undef], defers := [] }) ?assign ?body ?done
  case own1 =>
    rintro xs W W' row ⟨kvk, h, h'⟩ hg hr
    have ho : Only row.toList W W' := (Only.refl _ _).grown hg (fun q e => .inl (by simp [e]))
    refine ⟨kvk, h.loop ho (fun q hq => ?_), h'.grown hg (fun q e => .inr (hr q e).1)⟩
    have e : row = some q := by simpa using hq
    exact (hr q e).2
  case own2 =>
    rintro xs W W' row ⟨h1, h2⟩ hg hr
    refine ⟨h1, fun i t hi ht => ?_⟩
    obtain ⟨x, y1, y2, y3, y4⟩ := h2 i t hi ht
    exact ⟨x, y1, y2, y3, xCO (w := w) y4 hg hr⟩
  case own3 =>
    rintro pre x xs W W' row ⟨y0, t, y1, y2, y3⟩ hg hr
    exact ⟨y0, t, y1, y2, xCO (w := w) y3 hg hr⟩
  case assign =>
    rintro l x W K hK
    have HK := kH hK
    clear hK
    unfold TxV.enc
    gi_wp2
    exact HK.out
  case body =>
    rintro l pre x W hlW ⟨rl, hrl⟩ ⟨kvk, hst, hon⟩ ⟨hxi, t, hxt, hxn, hxo⟩ hlt
    clear hrl
    obtain ⟨i, A2, n2, c2⟩ := x
    dsimp only [TxV.v] at hxi hxt hxn hxo ⊢
    subst hxi hxn
    have hredo := HFN.out.2.2.1 pre.length t hxt
    obtain ⟨hinv, hlen⟩ := HFN.out.2.2.2 pre.length (by omega)
    have htm := List.mem_of_getElem? hxt
    have K6 : Blk W wd.heap.size 36 #[.pointer (some ⟨gs, 0, none⟩)] := HK6.out.of (hon.block _ HK6.out.lt (x1N HK6.out (HSF.out.odd (by decide) (by decide))))
    have q6 : W.cell? ⟨wd.heap.size, 0, none⟩ = some (.pointer (some ⟨gs, 0, none⟩)) := K6.cell 0
    have hfl0 : (fn pre.length).fl.length = M0.fl.length := by rw [hlen, HFN.out.1]
    have htb : Bytes W W.heap.size A2 t.length t := hxo.bytes (h256 t htm)
    have htl := hlong t htm
    have HRD : Hid (∃ (M1 : Mod), M1 = fn (pre.length + 1) /\ Calls Tryz.prog 74 #[.pointer (some ⟨gs, 0, none⟩), .slice A2 t.length c2] W fun e w' => e = .returned (.bool true) /\ ∃ kv', StoreAt w' (ms :: jf gj (.slice A txs.length c) F) gs ms gp r c1 As1 M1 kv' /\ Only (ms :: foot gp r M0.fl) W w') := kH (by
      generalize fn pre.length = MA at *
      generalize fn (pre.length + 1) = MB at *
      cases hredo with
      | op b1 b2 b3 b4 b5 =>
        refine ⟨_, rfl, ?_⟩
        have := xIQ hst (by simp) (fun z hz => Nat.lt_of_lt_of_le (HZB.out z hz) hon.size) hinv (by omega) _ _ b1 b2 b3 b4 (by omega) htb (Nat.le_refl _) b5 (c := c2)
        rw [x2Q hfl0] at this
        exact this)
    obtain ⟨M1, hM1, hrd⟩ := HRD.out
    have HRD2 := kH hrd
    have HON := kH hon
    have HM1 := kH hM1
    have HST := kH hst
    have HFL := kH hfl0
    clear HRD hrd hredo hinv hlen htm hfl0 htb hst hon hxt hxo K6 hM1
    refine wpIn_block ?_
    gi_wp2_with (refine ⟨trivial, ?_⟩
                 gi_at_call 74
                 refine (callsIn_wide.2 HRD2.out).mono ?_
                 rintro e W2 ⟨rfl, kv2, hst2, hon2⟩
                 have HW2 := kH (kA hst2 hon2)
                 clear hst2 hon2)
    obtain ⟨hst2, hon2⟩ := HW2.out
    have hsw := HON.out.size
    refine ⟨⟨hon2.size, fun q o hq ho hc => ?_⟩, ⟨hon2.size, fun q hq => ?_, fun q cs fr hq => ?_⟩, ⟨kv2, ?_, HON.out.trans hon2 (Fresh.refl _ _)⟩⟩
    · have hql := (Array.getElem?_eq_some_iff.1 ho).1
      exact (hon2.block q hql (fun hm => by have := HG.out.2 q hm; have := HE.out.1.size; have := HF.out.1.size; omega)).trans ho
    · have h3 := HKT.out q hq
      refine hon2.block q (by omega) (fun hm => ?_)
      have h4 := HG.out.1 q hm
      have h5 := HG.out.2 q hm
      rcases List.mem_cons.1 hq with rfl | hq
      · omega
      · have := (HJX.out.tx.over q hq).2
        omega
    · have hql := (Array.getElem?_eq_some_iff.1 hq).1
      refine (hon2.block q hql (fun hm => ?_)).trans hq
      have hno : ∀ {t : TypeId} {cs' : Array Value}, Blk W q t cs' -> t ≠ 5 -> False := fun {t cs'} hb hne => by
        have e := hb.symm.trans hq
        injection e with e
        injection e with e1 e2 e3
        exact hne e2
      have hm' : q ∈ ms :: foot gp r (fn pre.length).fl := by rw [x2Q HFL.out]; exact hm
      rcases HST.out.kinds hm' with rfl | ⟨cs2, _, hB⟩ | ⟨cs2, _, _, hB⟩
      · obtain ⟨es, ck, h4, _⟩ := HST.out.st.map
        have e := h4.symm.trans hq
        cases e
      · exact hno hB (by decide)
      · exact hno hB (by decide)
    · rw [List.length_append, List.length_singleton, <- HM1.out]
      exact hst2
  case done =>
    rintro D xs W hD hS ⟨kvk, hst, hon⟩ hK
    rw [hS.1, HFN.out.2.1] at hst
    have K6 : Blk W wd.heap.size 36 #[.pointer (some ⟨gs, 0, none⟩)] := HK6.out.of (hon.block _ HK6.out.lt (x1N HK6.out (HSF.out.odd (by decide) (by decide))))
    have hbwf : Below wb.heap.size wb wf := HE.out.2.2.trans (HF.out.1.mono (by have := HE.out.2.2.size; have := HSE.out; omega))
    have K2f : Blk wf w.heap.size 31 #[.pointer none] := HK2.out.below hbwf HK2.out.lt
    have K3f : Blk wf (w.heap.size + 1) 28 #[.nilIface] := HK3.out.below hbwf HK3.out.lt
    have K2 : Boxed W w.heap.size 31 (.pointer none) := K2f.of (hon.block _ K2f.lt (x1N K2f (HSF.out.odd (by decide) (by decide))))
    have K3 : Boxed W (w.heap.size + 1) 28 .nilIface := K3f.of (hon.block _ K3f.lt (x1N K3f (HSF.out.odd (by decide) (by decide))))
    have q6 : W.cell? ⟨wd.heap.size, 0, none⟩ = some (.pointer (some ⟨gs, 0, none⟩)) := K6.cell 0
    have HDN := kH (kA hst (kA hon hK))
    have hbd : ∀ w, (Instr.build 113 #[(0, .pointer (some ⟨gj, 0, none⟩)), (1, .pointer (some ⟨gs, 0, none⟩))]).run Tryz.prog w = .ok (.agg (poolC gj gs false)) w := fun w => by kernel_rfl
    have HK2W := kH K2
    have HK3W := kH K3
    have hlt2 := K2f.lt
    have hlt3 := K3f.lt
    have hbwf' := kH hbwf
    obtain ⟨W4, hW4⟩ : ∃ W4, W4 = W.alloc (.cells #[.pointer (some ⟨gj, 0, none⟩), .pointer (some ⟨gs, 0, none⟩), .bool false] 113) := ⟨_, rfl⟩
    have hb4 : Below W.heap.size W W4 := by rw [hW4]; exact x06 _ _
    have KP : Blk W4 W.heap.size 113 (poolC gj gs false) := by rw [hW4]; exact Blk.new _ _ _
    have HW4 := kH hW4
    have HB4 := kH (kA hb4 KP)
    have HK24 := kH (show Blk W4 w.heap.size 31 #[.pointer none] from Blk.below K2 hb4 (Blk.lt K2))
    have HK34 := kH (show Blk W4 (w.heap.size + 1) 28 #[.nilIface] from Blk.below K3 hb4 (Blk.lt K3))
    have hWsz := hon.size
    clear hst hon hK K6 K2f K3f hS K2 K3 hW4 hb4 KP hbwf
    gi_wp2_with (first
      | rw [<- HW4.out]
      | (refine x3J rfl 31 _ _ rfl w.heap.size 0 31 _ (.pointer (some ⟨W.heap.size, 0, none⟩)) rfl rfl HK24.out (by simp) (by kernel_rfl) rfl ?_; intro w7 K7 o7 s7)
      | (refine x3J rfl 28 _ _ rfl (w.heap.size + 1) 0 28 _ .nilIface rfl rfl (HK34.out.of (o7.block _ HK34.out.lt (by simp))) (by simp) (by kernel_rfl) rfl ?_; intro w8 K8 o8 s8))
    have hst := HDN.out.1
    have hon := HDN.out.2.1
    have hK := HDN.out.2.2
    have hDlt := (Array.getElem?_eq_some_iff.1 hK).1
    have hD4 : W4.heap[D]? = some (.deferred (some [])) := (HB4.out.1.block D hDlt).trans hK
    have hDlt4 := (Array.getElem?_eq_some_iff.1 hD4).1
    have hD7 : w7.heap[D]? = some (.deferred (some [])) := (o7.block D hDlt4 (by simp; omega)).trans hD4
    have hD8 : w8.heap[D]? = some (.deferred (some [])) := (o8.block D (by omega) (by simp; omega)).trans hD7
    refine ⟨by simp, .inl ⟨_, _, rfl, run_takeDeferred hD8, ?_⟩⟩
    have hkp := grownBy_putObj' w8 D (.deferred none)
    obtain ⟨w9, hw9⟩ : ∃ w9, w9 = w8.putObj D (.deferred none) := ⟨_, rfl⟩
    have ho9 : Only [D] w8 w9 := by rw [hw9]; exact (Only.refl _ _).grown hkp (fun q e => .inl (by cases e; simp))
    rw [<- hw9]
    have ho48 : Only [w.heap.size, w.heap.size + 1] W4 w8 := (o7.mono (G := [w.heap.size, w.heap.size + 1]) (fun q hq => by simp at hq; simp [hq])).trans (o8.mono (G := [w.heap.size, w.heap.size + 1]) (fun q hq => by simp at hq; simp [hq])) (Fresh.refl _ _)
    have K29 : Blk w9 w.heap.size 31 #[.pointer (some ⟨W.heap.size, 0, none⟩)] := by
      have h7 : Blk w7 w.heap.size 31 #[.pointer (some ⟨W.heap.size, 0, none⟩)] := K7
      have h8 := h7.of (o8.block _ h7.lt (by simp))
      exact h8.of (ho9.block _ h8.lt (by simp; omega))
    have K39 : Blk w9 (w.heap.size + 1) 28 #[.nilIface] := by
      have h8 : Blk w8 (w.heap.size + 1) 28 #[.nilIface] := K8
      exact h8.of (ho9.block _ h8.lt (by simp; omega))
    refine ⟨_, xCR _ _ w.heap.size (w.heap.size + 1) _ _ rfl rfl K29 K39, ?_⟩
    have hszf : wb.heap.size <= wf.heap.size := hbwf'.out.size
    have hszb : w.heap.size + 2 <= wb.heap.size := by have := HBB.out.2.size; have := HSA.out; omega
    have hdr : ∀ q ∈ [D], ∃ o : Obj, w8.heap[q]? = some o /\ o.isCells = false /\ o.isWalk = false := fun q hq => by
      simp at hq
      subst hq
      exact ⟨_, hD8, rfl, rfl⟩
    have hst4 := hst.below HB4.out.1
    have hst8 := hst4.typed ho48 (fun q hq => by
      simp at hq
      rcases hq with rfl | rfl
      · exact ⟨_, _, HK24.out, by decide, by decide, by decide, by decide, by decide, by decide⟩
      · exact ⟨_, _, HK34.out, by decide, by decide, by decide, by decide, by decide, by decide⟩)
    have hst9 := hst8.loop ho9 hdr
    have hFu := HD.out.under
    have hjfn : ∀ q ∈ jf gj (.slice A txs.length c) F, q < wb.heap.size /\ q ≠ w.heap.size /\ q ≠ w.heap.size + 1 := fun q hq => by
      have h1 := HJX.out.under q hq
      unfold jf at hq
      rw [List.mem_cons, List.mem_append] at hq
      rcases hq with rfl | hq | hq
      · have := HBB.out.1
        exact ⟨h1, HNJ.out.1, HNJ.out.2⟩
      · have := HNR.out q hq
        omega
      · have := hFu q hq
        omega
    have hw0w := HB.out.size
    have hjW := HJF.out.past hon (fun q hq => ⟨fun hm => by have := HG.out.1 q hq; have := (hjfn q hm).1; omega, HSF.out.odd (by decide) (by decide) q hq, by have := HG.out.1 q hq; omega⟩)
    have hj4 := hjW.below HB4.out.1
    have hj8 := hj4.past ho48 (fun q hq => by
      simp at hq
      rcases hq with rfl | rfl
      · exact ⟨fun hm => (hjfn _ hm).2.1 rfl, Odd.blk HK24.out (by decide), by omega⟩
      · exact ⟨fun hm => (hjfn _ hm).2.2 rfl, Odd.blk HK34.out (by decide), by omega⟩)
    have hj9 := hj8.past ho9 (fun q hq => by
      simp at hq
      subst hq
      refine ⟨fun hm => by have := (hjfn _ hm).1; omega, fun cs hb => ?_, by omega⟩
      have e := hb.symm.trans hD8
      cases e)
    have KP9 : Blk w9 W.heap.size 113 (poolC gj gs false) := by
      have h8 := HB4.out.2.of (ho48.block _ HB4.out.2.lt (by simp; omega))
      exact h8.of (ho9.block _ h8.lt (by simp; omega))
    have hlen := (HFN.out.2.2.2 txs.length (Nat.le_refl _)).2
    rw [HFN.out.2.1, HFN.out.1] at hlen
    have hbW : Below w.heap.size w wf := HBB.out.1.trans (hbwf'.out.mono HBB.out.1.size)
    have hbW2 : Below w.heap.size w W := hbW.trans (hon.below (fun q hq => by have := HG.out.1 q hq; omega) hbW.size)
    have hbW4 : Below w.heap.size w W4 := hbW2.trans (HB4.out.1.mono hbW2.size)
    have hbW8 : Below w.heap.size w w8 := hbW4.trans (ho48.below (fun q hq => by simp at hq; omega) hbW4.size)
    have hbW9 : Below w.heap.size w w9 := hbW8.trans (ho9.below (fun q hq => by simp at hq; omega) hbW8.size)
    refine ⟨⟨W.heap.size, g, gj, B, cc, .slice A txs.length c, us, F, gs, ms, gp, r, c1, As1, kvk, ms :: jf gj (.slice A txs.length c) F⟩, rfl, rfl, ⟨?_, hst9, fun q hq => ?_, ?_, fun q hq => ⟨List.mem_cons_of_mem _ hq, fun e => ?_⟩, List.mem_cons_self, fun z hz => ?_⟩, KP9, by show w.heap.size <= W.heap.size; omega, hbW9⟩
    · have h9 := hj9
      rw [hde] at h9
      exact h9
    · have hq' : q ∈ ms :: foot gp r M.fl := hq
      rw [x2Q hlen] at hq'
      have := HG.out.1 q hq'
      omega
    · have h1 := HSO.out.2.1
      have := HCS.out
      show w0.heap.size <= gs
      omega
    · have h1 := (hjfn q hq).1
      have h2 := HG.out.1 ms List.mem_cons_self
      have e' : q = ms := e
      omega
    · have h1 : z < wf.heap.size := HZB.out z hz
      have := HB4.out.1.size
      have := ho48.size
      have := ho9.size
      omega
end
section
open Go.RowKit Go.BigFrame
def xMake : StepV := ⟨6, 0, 0, [], []⟩
def xHi : StepV := ⟨8, 0, 0, [], [104, 105]⟩
def xRead : StepV := ⟨13, 0, 9, [], []⟩
def hiTx : List Nat := opB [97] [xMake, xHi]
theorem x45 : hiTx.length = 100 := by unfold hiTx; rw [xAC]; rfl
theorem xP7 : runW (M0 20).bl (startW (M0 20) (keyB [97])) [xMake, xHi] = (⟨true, [104, 105], [], [], []⟩, 0) := by kernel_rfl
theorem xII {k : Nat} {M' : Mod} {told : List (List Nat)} (h : DoR (M0 20) [97] [xMake, xHi] M' k told) : k = 0 /\ M'.bl = (M0 20).bl /\ ∃ es, M'.ob = [(keyB [97], ⟨[104, 105], [], es⟩)] := by
 have hr := xP7
 cases h with
 | range h =>
  rcases h with h | h | h
  ·exact absurd h (by decide)
  ·simp at h
  ·simp at h
 | step _ _ _ h => rw [hr] at h; exact absurd rfl h
 | full _ _ _ h hf =>
  rw [hr] at hf
  cases hf with
  | full h1 h2 => exact absurd h2 (by decide)
 | done _ _ _ h hf =>
  rw [hr] at hf ⊢
  exact ⟨rfl, rfl, _, rfl⟩
theorem xO5 {k : Nat} {M M' : Mod} {es : List (Nat × Nat)} {told : List (List Nat)} (hob : M.ob = [(keyB [97], ⟨[104, 105], [], es⟩)]) (hbl : M.bl = (M0 20).bl) (h : DoR M [97] [xRead] M' k told) (hI : Inv 1000 M) : k = 0 /\ told = [[104, 105]] := by
 have hs : startW M (keyB [97]) = ⟨true, [104, 105], [], es, []⟩ := by
  unfold startW
  have : gget M.ob (keyB [97]) = some ⟨[104, 105], [], es⟩ := by rw [hob]; rfl
  rw [this]
 have hr : runW M.bl (startW M (keyB [97])) [xRead] = (⟨true, [104, 105], [], es, [[104, 105]]⟩, 0) := by rw [hs, hbl]; rfl
 have hle : lens es = 1 := by
  have h2 := hI.obs (keyB [97], ⟨[104, 105], [], es⟩) (by rw [hob]; simp)
  have h3 := h2.e
  have h4 : needsB [104, 105] = 1 := by decide
  simp only at h3
  omega
 cases h with
 | range h =>
  rcases h with h | h | h
  ·exact absurd h (by decide)
  ·simp at h
  ·simp at h
 | step _ _ _ h => rw [hr] at h; exact absurd rfl h
 | full _ _ _ h hf =>
  rw [hr] at hf
  cases hf with
  | full h1 h2 =>
   have h5 : needsB [104, 105] = 1 := by decide
   simp only at h1 h2
   rw [h5, hle] at h2
   omega
 | done _ _ _ h hf => rw [hr]; exact ⟨rfl, rfl⟩
theorem xFQ : noteJ 40 (J0 40 20) (putM (M0 20)) hiTx = ({J0 40 20 with f := appF 40 (J0 40 20).f 1 0 hiTx, s := (J0 40 20).s + pn hiTx + 3, txs := [hiTx], u := 0 + pn hiTx + 1}, 0) := by
 have h1 : pn hiTx = 1 := by unfold pn; rw [x45]
 have h2 : needOf hiTx.length = 2 := by rw [x45]; decide
 have h3 : logOf 40 = 14 := by decide
 unfold noteJ
 rw [if_neg (by rw [h2, h3]; show ¬ (14 - 0 < 2); omega)]
 unfold appJ
 rw [if_neg (by rw [h1, h3]; show ¬ (14 - 0 < 1 + 1); omega), if_neg (by simp [J0])]
 rfl
theorem xOL {M' : Mod} {told : List (List Nat)} (h : DoR (M0 20) [97] [xMake, xHi] M' 0 told) : Redos (M0 20) [hiTx] M' :=
 .snoc (txs := []) .nil (.op (by intro b hb; simp at hb; omega) (by decide) (fun x hx => by
  simp at hx
  rcases hx with rfl | rfl
  ·exact ⟨by decide, by decide, by decide, ⟨by decide, (fun b hb => by cases hb)⟩, ⟨by decide, (fun b hb => by cases hb)⟩⟩
  ·exact ⟨by decide, by decide, by decide, ⟨by decide, (fun b hb => by cases hb)⟩, ⟨by decide, (fun b hb => by simp [xHi] at hb; omega)⟩⟩) (by decide) h)
theorem xIB {w0 w : World} {g n : Nat} {F : List Nat} {f : Int -> Sec} {s : Nat} {gen u : Nat} {txs : List (List Nat)} {M0 M : Mod} {k0 : Nat} (hd : DiskAt w w0.heap.size F g (DM.idle n f s 0)) (hb : Below w0.heap.size w0 w) (hn : n <= 500) (hn8 : 8 <= n) (hT : Tab w0) (hw0 : 0 < w0.heap.size)
  (hs : Shows (DM.idle n f s 0) n gen (putM M0) txs u) (hI : Inv k0 M0) (hk0 : k0 <= 100000) (hNN : InvN M0) (hRS : RiseM M0) (hput : (putM M0).length <= 20000) (hp256 : Small (putM M0)) (hR : Redos M0 txs M) (hmany : txs.length <= 1000) (hlong : ∀ t ∈ txs, t.length <= 20000) (h256 : ∀ t ∈ txs, ∀ b ∈ t, b < 256) :
  Calls Tryz.prog 24 #[.pointer (some ⟨g, 0, none⟩)] w fun e w' => ∃ x : PX, e = .returned (.tuple #[.pointer (some ⟨x.gq, 0, none⟩), .nilIface]) /\ x.g = g /\ JSo w0 w' n x ⟨f, s, gen, putM M0, txs, u, false, 0⟩ M /\ Blk w' x.gq 113 (poolC x.gj x.gs false) /\ w.heap.size <= x.gq /\ Below w.heap.size w w' :=
 callsIn_wide.1 (xME hd hb hn hn8 hT hw0 hs hI hk0 hNN hRS hput hp256 hR hmany hlong h256)
def svMake : SV := ⟨xMake, none, 0⟩
def svHi (g : Nat) : SV := ⟨xHi, some ⟨g, 0, none⟩, 2⟩
def svRead : SV := ⟨xRead, none, 0⟩
theorem xKW (b : Nat) : Small (putM (M0 b)) := fun x hx => by
 have h : (srt ([] : List Key)) = [] := by unfold srt; simp
 unfold putM at hx
 simp only [List.mem_append] at hx
 rcases hx with hx | hx | hx | hx
 ·exact x0Z _ x hx
 ·simp [flB, flags8, M0] at hx
  omega
 ·exact x0Z _ x hx
 ·simp [M0, h] at hx
theorem xN8 (w : World) : StepsR ((w.alloc (.cells #[.int .u8 104, .int .u8 105] 5 (2, 3))).alloc (.cells #[.int .i64 6, .int .i64 0, .int .i64 0, .string { data := #[] }, .slice none 0 0, .int .i64 8, .int .i64 0, .int .i64 0, .string { data := #[] }, .slice (some ⟨w.heap.size, 0, none⟩) 2 2] 52)) (w.heap.size + 2) (some ⟨w.heap.size + 1, 0, none⟩) [svMake, svHi w.heap.size] := by
 refine ⟨?_, fun s hs => ?_⟩
 ·have := Reads.newN (w.alloc (.cells #[.int .u8 104, .int .u8 105] 5 (2, 3))) ([svMake, svHi w.heap.size].flatMap SV.cs) 2 5 52 (0, 0) rfl
  rw [World.size_alloc] at this
  exact this
 ·simp at hs
  rcases hs with rfl | rfl
  ·exact xAH ⟨Reads.none_, fun b hb => by cases hb⟩ rfl rfl ⟨by decide, by decide⟩ (by decide)
  ·refine xAH ?_ rfl rfl ⟨by simp [svHi, xHi], by simp [svHi, xHi]⟩ (by simp [svHi, xHi])
   have := Bytes.new w [104, 105] 5 (2, 3) (fun b hb => by simp at hb; omega)
   exact (this.alloc (by simp) _).more (by omega)
theorem xH9 (w : World) : StepsR (w.alloc (.cells #[.int .i64 13, .int .i64 0, .int .i64 9, .string { data := #[] }, .slice none 0 0] 52)) (w.heap.size + 1) (some ⟨w.heap.size, 0, none⟩) [svRead] := by
 refine ⟨Reads.newN w ([svRead].flatMap SV.cs) 1 5 52 (0, 0) rfl, fun s hs => ?_⟩
 simp at hs
 subst hs
 exact xAH ⟨Reads.none_, fun b hb => by cases hb⟩ rfl rfl ⟨by decide, by decide⟩ (by decide)
set_option maxHeartbeats 16000000 in
theorem xG5 (w : World) (hT : Tab w) (hpos : 0 < w.heap.size) : Calls Tryz.prog 10 #[] w fun e w' => e = .returned (.bool true) /\ Below w.heap.size w w' := by
 have HT := kH hT
 clear hT
 go_enter Tryz.func10, Tryz.ntmps10
 go_wp2_with fail
 refine (xLF w w.heap.size 40 (by omega) (by omega) (Nat.le_refl _)).mono ?_
 intro e w1 hm
 obtain ⟨g, rfl, F1, hd1, hb1, -⟩ := Holds.made (Below.refl _ _) hm
 rw [xKN] at hd1
 have HFM := kH (xF0 (b := 20) hd1 hb1 (by omega) (by omega) (by omega) HT.out hpos)
 clear hm hd1 hb1
 go_wp2_with fail
 refine HFM.out.mono ?_
 rintro e w2 ⟨x, rfl, hxg, hP, -, -⟩
 have HP := kH hP
 have HXG := kH hxg
 clear hP hxg HFM
 have kc := fun (w : World) (C : Array Value) (n c : Nat) => Lib.run_convert_bytes_const (P := Tryz.prog) w 35 5 C n c Tryz.underlying35 Tryz.underlying5
 go_wp2_with fail
 have hA : strOf [97] = { data := #[97] } := by kernel_rfl
 have hsm97 : Small [97] := by intro b hb; simp at hb; omega
 obtain ⟨w3, hw3⟩ : ∃ w3, w3 = (w2.alloc (.cells #[.int .u8 104, .int .u8 105] 5 (2, 3))).alloc (.cells #[.int .i64 6, .int .i64 0, .int .i64 0, .string { data := #[] }, .slice none 0 0, .int .i64 8, .int .i64 0, .int .i64 0, .string { data := #[] }, .slice (some ⟨w2.heap.size, 0, none⟩) 2 2] 52) := ⟨_, rfl⟩
 have hst3 := xN8 w2
 have hb23 : Below w2.heap.size w2 w3 := by rw [hw3]; exact ((Below.refl _ _).alloc (Nat.le_refl _) _).alloc (by simp) _
 have hs3 : w3.heap.size = w2.heap.size + 2 := by rw [hw3]; simp
 rw [<- hw3] at hst3 ⊢
 have hdo := xFB (HP.out.below hb23) HT.out hpos (by omega) [97] hsm97 (by decide) hst3 (by omega) (cs := 2) (by simp) (by simp) (by show hiTx.length <= _; rw [x45]; omega)
 rw [hA] at hdo
 have HDO := kH hdo
 have HB23 := kH hb23
 clear hw3 hst3 hb23 hdo
 refine HDO.out.mono ?_
 rintro e w4 ⟨x4, J4, M4, kk, v4, told4, hpd, rfl, hP4, hgq4, hg4, ht4, -, -⟩
 have hpd' : PDo 40 (J0 40 20) (M0 20) [97] [xMake, xHi] J4 M4 kk told4 := hpd
 obtain ⟨told, hdor, rfl, rfl, rfl⟩ : ∃ told, DoR (M0 20) [97] [xMake, xHi] M4 0 told /\ kk = 0 /\ told4 = told /\ J4 = (noteJ 40 (J0 40 20) (putM (M0 20)) hiTx).1 := by
  cases hpd' with
  | read h _ => exact absurd h (by decide)
  | bad _ h hk => exact absurd (xII h).1 hk
  | full _ _ h => exact absurd (congrArg Prod.snd xFQ) h
  | done _ h _ => exact ⟨_, h, rfl, rfl, rfl⟩
 rw [xFQ] at hP4
 dsimp only at hP4
 obtain ⟨-, hbl4, es4, hob4⟩ := xII hdor
 have HD4 := kH (kA hdor (kA hbl4 hob4))
 have HG4 : Hid (x4.g = g) := kH (hg4.trans HXG.out)
 have HP4 := kH hP4
 clear hpd hpd' hP4 hgq4 hg4 ht4 hdor hbl4 hob4 HDO HP kc
 simp only [errV]
 go_wp2_with fail
 have hd4 := HP4.out.js.jx.disk
 rw [HG4.out] at hd4
 obtain ⟨f4, hf4⟩ : ∃ f4, f4 = appF 40 (J0 40 20).f 1 0 hiTx := ⟨_, rfl⟩
 obtain ⟨s4, hs4⟩ : ∃ s4, s4 = (J0 40 20).s + pn hiTx + 3 := ⟨_, rfl⟩
 have hd4' : DiskAt w4 w.heap.size x4.F g (DM.idle 40 f4 s4 0) := by rw [hf4, hs4]; exact hd4
 have hfine := HP4.out.fine
 have hfine' : JFine f4 40 1 (putM (M0 20)) [hiTx] (0 + pn hiTx + 1) := by rw [hf4]; exact hfine
 have HFI := kH hfine'
 have HS4 := kH hs4
 have HHOLD : Holds w w4 g (DM.idle 40 f4 s4 0) [] := ⟨x4.F, hd4', HP4.out.bel, fun q hq => by cases hq⟩
 have HB4 := kH HP4.out.bel
 clear hd4 hd4' hfine hfine' hf4 hs4
 refine (xH3 HHOLD (by simp [DM.idle]) none 0 0 [] (fun F _ W' _ => Reads.none_)).mono ?_
 rintro e w5 ⟨rfl, ⟨F5, hd5, hb5, -⟩, -⟩
 rw [xGE] at hd5
 have HOP := kH (xIB hd5 hb5 (by omega) (by omega) HT.out hpos HFI.out.show.shows (inv0 (n := 20) (by omega)) (by omega) (fun p hp => by cases hp) ⟨List.Pairwise.nil, fun p hp => by cases hp⟩ (by rw [x3B]; omega) (xKW 20) (xOL HD4.out.1) (by simp) (fun t ht => by simp at ht; subst ht; rw [x45]; omega) (fun t ht => by
  simp at ht
  subst ht
  exact xB0 hsm97 (fun y hy => by
   simp at hy
   rcases hy with rfl | rfl
   ·exact ⟨(fun b hb => by cases hb), (fun b hb => by cases hb)⟩
   ·exact ⟨(fun b hb => by cases hb), (fun b hb => by simp [xHi] at hb; omega)⟩)))
 have HB5 := kH hb5
 clear hd5 hb5 HHOLD
 go_wp2_with fail
 refine HOP.out.mono ?_
 rintro e w6 ⟨y, rfl, hyg, hj6, hpb6, hgq6, hb6⟩
 have hbb : Below w.heap.size w w6 := HB5.out.trans (hb6.mono HB5.out.size)
 have hHd : Holds w w6 g (DM.idle 40 f4 s4 0) [] := ⟨y.F, by have h := hj6.jx.disk; rw [hyg] at h; exact h, hj6.jx.bel, fun q hq => by cases hq⟩
 have HSTP := kH (x9P hHd)
 have hw5 := HB5.out.size
 obtain ⟨i1, i2, i3⟩ := x76 (inv0 (n := 20) (by omega)) HD4.out.1
 have hlen4 : pn hiTx = 1 := by unfold pn; rw [x45]
 have hs0 : (J0 40 20).s = 7 := by show pn (putM (M0 20)) + 6 = 7; rw [pn0]
 have hs11 : s4 = 11 := by rw [HS4.out, hs0, hlen4]
 have HS11 := kH hs11
 have hP6 : PAt w w6 40 y ⟨f4, s4, 1, putM (M0 20), [hiTx], 0 + pn hiTx + 1, false, 0⟩ 1 M4 :=
  ⟨hj6, hpb6, by omega, HFI.out, ⟨rfl, by show s4 <= _; omega, by show (1 : Nat) <= _; omega, Nat.le_refl _, Nat.zero_le _⟩, i1.mono (by omega), (xA9 (M := M0 20) List.nodup_nil (invA0 20) HD4.out.1).mono (by omega), by rw [i2]; simp [M0], by omega, xAJ (M := M0 20) (fun p hp => by cases hp) HD4.out.1, xAD (M := M0 20) ⟨List.Pairwise.nil, fun p hp => by cases hp⟩ HD4.out.1⟩
 have HP6 := kH hP6
 have HYG := kH hyg
 clear hj6 hpb6 hgq6 hb6 hbb hHd i1 i2 i3 hlen4 hs0 hs11 hP6 hyg HOP
 go_wp2_with fail
 refine HSTP.out.mono ?_
 rintro e w' ⟨rfl, rfl⟩
 go_wp2_with fail
 obtain ⟨w7, hw7⟩ : ∃ w7, w7 = w6.alloc (.cells #[.int .i64 13, .int .i64 0, .int .i64 9, .string { data := #[] }, .slice none 0 0] 52) := ⟨_, rfl⟩
 have hst7 := xH9 w6
 have hb67 : Below w6.heap.size w6 w7 := by rw [hw7]; exact x06 _ _
 have hs7 : w7.heap.size = w6.heap.size + 1 := by rw [hw7]; simp
 rw [<- hw7] at hst7 ⊢
 have hdo := xFB (HP6.out.below hb67) HT.out hpos (by omega) [97] hsm97 (by decide) hst7 (by omega) (cs := 1) (by decide) (by decide) (by show (opB [97] [xRead]).length <= _; rw [xAC]; decide)
 rw [hA] at hdo
 have HDO := kH hdo
 clear hw7 hst7 hb67 hdo
 refine HDO.out.mono ?_
 rintro e w8 ⟨x8, J8, M8, kk, v8, told8, hpd, rfl, hP8, hgq8, hg8, ht8, -, -⟩
 have hpd' : PDo 40 ⟨f4, s4, 1, putM (M0 20), [hiTx], 0 + pn hiTx + 1, false, 0⟩ M4 [97] [xRead] J8 M8 kk told8 := hpd
 obtain ⟨rfl, rfl, rfl⟩ : kk = 0 /\ told8 = [[104, 105]] /\ J8 = ⟨f4, s4, 1, putM (M0 20), [hiTx], 0 + pn hiTx + 1, false, 0⟩ := by
  cases hpd' with
  | read _ h =>
   obtain ⟨a, b⟩ := xO5 HD4.out.2.2 HD4.out.2.1 h (HP6.out.inv.mono (by omega))
   exact ⟨a, b, rfl⟩
  | bad h => exact absurd h (by decide)
  | full h => exact absurd h (by decide)
  | done h => exact absurd h (by decide)
 have hg8' : x8.g = g := hg8.trans HYG.out
 have hHd : Holds w w8 g (DM.idle 40 f4 s4 0) [] := ⟨x8.F, by have h := hP8.js.jx.disk; rw [hg8'] at h; exact h, hP8.bel, fun q hq => by cases hq⟩
 have HSTP8 := kH (x9P hHd)
 have HB8 := kH hP8.bel
 obtain ⟨T8, ct8, tv8, rfl, hrow8, hels8⟩ := ht8
 obtain ⟨u, hu, hur⟩ := hels8.at' (k := 0) rfl
 obtain ⟨ad, u', hT8, -, hu', hc8⟩ := (Reads.of_own hrow8).at_ (k := 0) (by decide)
 rw [hu] at hu'
 injection hu' with hu'
 subst hu'
 subst hT8
 obtain ⟨A8, c8, rfl, ho8, hsm8, -⟩ := hur
 have ho8' : Bytes w8 w8.heap.size A8 2 [104, 105] := ho8.bytes hsm8
 have hsl := x6S (P := Tryz.prog) ho8' c8 35 9 5 Tryz.underlying35 Tryz.underlying5 Tryz.underlying9
 rw [show strOf [104, 105] = { data := #[104, 105] } from rfl] at hsl
 have hc8' : w8.cell? ad = some (.slice A8 2 c8) := by simpa [Addr.add] using hc8
 have hs11 := HS11.out
 subst hs11
 clear hpd hpd' hP8 hgq8 hg8 hg8' hHd hrow8 hels8 hu hc8 ho8 ho8' hsm8 HDO HP6 HSTP HP4
 simp only [errV]
 go_wp2_with fail
 refine HSTP8.out.mono ?_
 rintro e w' ⟨rfl, rfl⟩
 go_wp2
 go_ret
 exact ⟨rfl, HB8.out⟩
end
end Go.Proofs.YtajajlbeiikcmaaGreatDoor
