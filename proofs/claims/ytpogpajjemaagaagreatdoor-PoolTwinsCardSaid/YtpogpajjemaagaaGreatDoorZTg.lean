/- Texts of the walk, joined. -/
import Derived.Test.YtpogpajjemaagaaGreatDoorZTf
namespace Go.Proofs.YtpogpajjemaagaaGreatDoor
set_option linter.unusedSimpArgs false
set_option linter.unusedVariables false
set_option maxRecDepth 100000
open Go.Proofs.Tryz
set_option maxHeartbeats 16000000
open Go.RowKit Go.BigFrame
open List (all_eq_true append_assoc append_nil cons_append countP_replicate drop_eq_getElem_cons drop_of_length_le eq_nil_of_length_eq_zero ext_getElem? length_drop length_take map_cons map_drop map_nil mem_append mem_flatMap mem_of_getElem? mem_of_mem_drop mem_of_mem_erase mem_replicate mem_reverse mem_singleton pairwise_append pairwise_cons)
variable {a : Act} {w w' w0 : World} {Q : Exit -> Act -> World -> Prop} {B c c1 ce ct g gp gs gw j k m mb ms n r : Nat} {A A1 D E T : OA} {av : Value} {kv kvs : KV} {tv : List Value} {W : Wk} {x : StepV} {bl fl fl' : List Bool} {left : Int} {G Z bs : LN} {M : Mod} {s : RD} {o : Ob}
theorem x2Y {ops : Array Oper} {rest : List Oper} {op : Oper} (hgd : op.guard = none) (x : Operand) (ho : op.op = .load 52 x)
 (g : Nat) (s : StepV) (Dx : OA) (cx : Nat) (hx : a.eval x = .pointer (some ⟨g, 0, none⟩)) (hb : Blk w g 52 (stepC s Dx cx)) (h : wpList prog ops Q rest (a.put op.dst (stepVal s Dx cx)) w) : wpList prog ops Q (op :: rest) a w :=
 wpList_load_mid hgd 52 x ho g 0 hx [.int .i64 s.kd, .int .i64 s.at_, .int .i64 s.ln, .string (strOf s.nm), .slice Dx s.dt.length cx] _ (Blk.range (by simpa [stepC] using hb)) underlying52 (by rfl) (by kernel_rfl) h
structure WBd (W : Wk) : Prop where
 d : W.d.length <= 65536
 a : W.a.length <= 1000000
 t : W.told.length <= 1000000
 v : ∀ k bs, gget W.a k = some bs -> bs.length <= 1000000
theorem xGV (h : WkAt w B gw gs c ce ct D E T av kv tv W) (hB : B <= w.heap.size) (hth : W.th = true) (hbd : WBd W)
 {Bx cx : Nat} {Dx : OA} (hx : StepIn w x Bx Dx) (hBx : Bx <= B) (hk : 8 <= x.kd /\ x.kd <= 14) :
  Calls prog 116 #[.pointer (some ⟨gw, 0, none⟩), stepVal x Dx cx] w (StepTo w B gw gs (insideW W x).1 (errV (insideW W x).2)) := by
 obtain ⟨w1, hw1⟩ := kX (w.alloc (.cells #[.int .i64 x.kd, .int .i64 x.at_, .int .i64 x.ln, .string (strOf x.nm), .slice Dx x.dt.length cx] 52))
 obtain ⟨g3, hg3⟩ := kX w.heap.size
 have hb1 : Below w.heap.size w w1 := by rw [hw1]; exact (kB _ _).alloc (kR _) _
 have h1 := h.below hb1
 have K1 : Blk w1 g3 52 (stepC x Dx cx) := by rw [hw1, hg3]; exact kW w _ _
 have hx1 := hx.since hb1
 have hsz1 := hb1.size
 have HW1 := kH (kA hw1 hg3)
 have HB1 := kH (hb1.mono hB)
 have q0 : w1.cell? ⟨g3, 0, none⟩ = some (.int .i64 x.kd) := K1.cell 0
 have H1 := kH (kA h1 (kA hx1 hbd))
 have HTH := kH hth
 have HC : Hid (∀ w', Blk w' g3 52 (stepC x Dx cx) -> w'.cell? ⟨g3, 1, none⟩ = some (.int .i64 x.at_) /\ w'.cell? ⟨g3, 2, none⟩ = some (.int .i64 x.ln) /\ w'.cell? ⟨g3, 4, none⟩ = some (.slice Dx x.dt.length cx)) := kH fun w' h => ⟨h.cell 1, h.cell 2, h.cell 4⟩
 have HCE := kH (fun (w' : World) (h : Blk w' g3 52 (stepC x Dx cx)) => h.cell 0)
 have hsv : ∀ x : StepV, stepVal x Dx cx = .agg #[.int .i64 x.kd, .int .i64 x.at_, .int .i64 x.ln, .string (strOf x.nm), .slice Dx x.dt.length cx] := fun _ => rfl
 have hBw1 : B <= w1.heap.size := by omega
 by_cases hatt : x.kd = 11 ∨ x.kd = 12 ∨ x.kd = 14
 ·have HA := kH (xNG (cx := cx) h1 hBw1 hth hbd.a hbd.t hbd.v hx1 hatt)
  clear h hx hb1 hw1 hth hg3 h1 hx1 hbd HC
  have hkx : x.kd = 11 ∨ x.kd = 12 ∨ x.kd = 14 := hatt
  clear hatt hk
  rw [hsv]
  generalize hkd : x.kd = kd at *
  have HKD := kH hkd
  clear hkd
  go_enter func116, ntmps116
  rcases hkx with rfl | rfl | rfl
  all_goals
   go_wp2_with (first | rw [<- HW1.out.1, <- HW1.out.2] | (refine x2Y rfl (.tmp 3) rfl g3 x Dx cx rfl K1 ?_))
   refine HA.out.mono ?_
   rintro e w2 ⟨rfl, hw2, hb2⟩
   go_wp2
   go_ret
   exact ⟨rfl, hw2, HB1.out.trans hb2⟩
 ·obtain ⟨kd, at_, ln, nm, dt⟩ := x
  dsimp only at *
  have hk' : kd = 8 ∨ kd = 9 ∨ kd = 10 ∨ kd = 13 := by omega
  have HR := kH (xFY kd at_ ln (.string (strOf nm)) Dx dt.length cx hx.dl (by rfl) w1)
  have HNO : Hid (∀ kd, (kd = 8 ∨ kd = 9 ∨ kd = 10 ∨ kd = 13) -> reachesB kd at_ ln dt.length = false -> insideW W ⟨kd, at_, ln, nm, dt⟩ = (W, 1)) := kH fun kd hkd hr => by
   rcases hkd with rfl | rfl | rfl | rfl <;> simp [insideW, hr]
  have hi1 := hx.at2
  have hi2 := hx.ln2
  have hi3 := hx.dl
  dsimp only at hi1 hi2 hi3
  clear h hx hb1 hw1 hth hg3 h1 hx1 hbd hk hatt
  unfold stepVal
  dsimp only
  go_enter func116, ntmps116
  cases hr : reachesB kd at_ ln dt.length
  ·rw [hr] at HR
   have HRR := kH hr
   clear hr HC HCE
   rcases hk' with rfl | rfl | rfl | rfl
   all_goals
    go_wp2_with (first | rw [<- HW1.out.1, <- HW1.out.2] | (refine x2Y rfl (.tmp 3) rfl g3 _ Dx cx rfl K1 ?_))
    refine HR.out.mono ?_
    rintro e w2 ⟨rfl, hb2⟩
    have HB2 := kH hb2
    clear hb2
    go_wp2
    go_ret
    rw [HNO.out _ (by simp) HRR.out]
    exact ⟨rfl, ⟨_, _, _, _, _, _, _, _, _, H1.out.1.below HB2.out⟩, HB1.out.trans (HB2.out.mono hBw1)⟩
  ·rw [hr] at HR
   have HRR := kH hr
   clear hr HNO
   rcases hk' with rfl | rfl | rfl | rfl
   ·obtain ⟨k, rfl⟩ : ∃ k : Nat, at_ = (k : Int) := ⟨at_.toNat, by have := HRR.out; simp [reachesB] at this; omega⟩
    have hkl : k + dt.length <= 65536 := by have := HRR.out; simp [reachesB] at this; omega
    have hin : insideW W ⟨8, (k : Int), ln, nm, dt⟩ = ({W with d := writeB W.d k dt}, 0) := by simp [insideW, HRR.out]
    have HIN := kH hin
    clear hin
    go_wp2_with (first | rw [<- HW1.out.1, <- HW1.out.2] | (refine x2Y rfl (.tmp 3) rfl g3 _ Dx cx rfl K1 ?_))
    refine HR.out.mono ?_
    rintro e w2 ⟨rfl, hb2⟩
    have h2 := H1.out.1.below hb2
    have K2 := K1.of (hb2.block _ K1.lt)
    have hbb : Below B w w2 := HB1.out.trans (hb2.mono hBw1)
    have hBw2 : B <= w2.heap.size := by have := hb2.size; omega
    have q00 : w2.cell? ⟨g3, 0, none⟩ = some (.int .i64 8) := K2.cell 0
    have HX2 := kH (H1.out.2.1.since hb2)
    have H2 := kH h2
    have HBB := kH hbb
    clear hb2 h2 hbb HR q0
    go_wp2_with fail
    have hS : Blk w2.drew g3 52 (stepC ⟨8, (k : Int), ln, nm, dt⟩ Dx cx) := K2.drew
    refine x09 (fun w' => Blk w' g3 52 (stepC ⟨8, (k : Int), ln, nm, dt⟩ Dx cx)) 99 (by kernel_rfl) ?_
    refine tV 0 (.pointer (some ⟨gw, 0, none⟩)) rfl (fun w hw => by kernel_rfl) hS ?_
    refine tV 1 (.pointer (some ⟨gw, 0, none⟩)) rfl (fun w hw => by kernel_rfl) hS ?_
    refine tV 2 (.pointer (some ⟨gw, 0, none⟩)) rfl (fun w hw => by go_simp) hS ?_
    refine tV 3 (.pointer (some ⟨g3, 1, none⟩)) rfl (fun w hw => by go_simp) hS ?_
    refine tV 4 (.int .i64 (k : Int)) rfl (fun w hw => by have q := (HC.out w hw).1; go_simp) hS ?_
    refine tV 5 (.pointer (some ⟨g3, 4, none⟩)) rfl (fun w hw => by go_simp) hS ?_
    refine tV 6 (.slice Dx dt.length cx) rfl (fun w hw => by have q := (HC.out w hw).2.2; go_simp) hS ?_
    refine tO 7 ?_
    refine x03 (by kernel_rfl) (xN1 (cx := cx) (H2.out.below (w' := w2.drew) (x08 (kB _ _) 1)) hBw2 (by have := H1.out.2.2.d; omega) (dt := dt) (at_ := k) HX2.out.dat.drew hBx (by omega)) ?_
    rintro e w4 ⟨⟨rfl, hw4, hb4⟩, hst4⟩
    have hS4 : Blk w4 g3 52 (stepC ⟨8, (k : Int), ln, nm, dt⟩ Dx cx) := hS.of (hst4 _ _ hS)
    refine ⟨_, rfl, hS4, ?_⟩
    simp only [nH, pu, nB, nC, nD]
    have hfin : StepTo w B gw gs (insideW W ⟨8, (k : Int), ln, nm, dt⟩).1 (errV (insideW W ⟨8, (k : Int), ln, nm, dt⟩).2) (.returned .nilIface) w4 := by
     rw [HIN.out]
     exact ⟨rfl, hw4, HBB.out.trans (x0L hb4)⟩
    clear hw4 hb4 hst4 hS4
    have HFIN := kH hfin
    clear hfin hS
    refine tE ?_
    go_wp2
    go_ret
    exact HFIN.out
   ·obtain ⟨k, rfl⟩ : ∃ k : Nat, at_ = (k : Int) := ⟨at_.toNat, by have := HRR.out; simp [reachesB] at this; omega⟩
    obtain ⟨l, rfl⟩ : ∃ l : Nat, ln = (l : Int) := ⟨ln.toNat, by have := HRR.out; simp [reachesB] at this; omega⟩
    have hin : insideW W ⟨9, (k : Int), (l : Int), nm, dt⟩ = ({W with d := zeroB W.d k l}, 0) := by simp [insideW, HRR.out]
    have HIN := kH hin
    clear hin
    go_wp2_with (first | rw [<- HW1.out.1, <- HW1.out.2] | (refine x2Y rfl (.tmp 3) rfl g3 _ Dx cx rfl K1 ?_))
    refine HR.out.mono ?_
    rintro e w2 ⟨rfl, hb2⟩
    have h2 := H1.out.1.below hb2
    have K2 := K1.of (hb2.block _ K1.lt)
    have hbb : Below B w w2 := HB1.out.trans (hb2.mono hBw1)
    have hBw2 : B <= w2.heap.size := by have := hb2.size; omega
    have q00 : w2.cell? ⟨g3, 0, none⟩ = some (.int .i64 9) := K2.cell 0
    have HX2 := kH (H1.out.2.1.since hb2)
    have H2 := kH h2
    have HBB := kH hbb
    clear hb2 h2 hbb HR q0
    go_wp2_with fail
    have hS : Blk w2.drew g3 52 (stepC ⟨9, (k : Int), (l : Int), nm, dt⟩ Dx cx) := K2.drew
    refine x09 (fun w' => Blk w' g3 52 (stepC ⟨9, (k : Int), (l : Int), nm, dt⟩ Dx cx)) 99 (by kernel_rfl) ?_
    refine tV 0 (.pointer (some ⟨gw, 0, none⟩)) rfl (fun w hw => by kernel_rfl) hS ?_
    refine tV 1 (.pointer (some ⟨gw, 0, none⟩)) rfl (fun w hw => by kernel_rfl) hS ?_
    refine tV 2 (.pointer (some ⟨gw, 0, none⟩)) rfl (fun w hw => by go_simp) hS ?_
    refine tV 3 (.pointer (some ⟨g3, 1, none⟩)) rfl (fun w hw => by go_simp) hS ?_
    refine tV 4 (.int .i64 (k : Int)) rfl (fun w hw => by have q := (HC.out w hw).1; go_simp) hS ?_
    refine tV 5 (.pointer (some ⟨g3, 2, none⟩)) rfl (fun w hw => by go_simp) hS ?_
    refine tV 6 (.int .i64 (l : Int)) rfl (fun w hw => by have q := (HC.out w hw).2.1; go_simp) hS ?_
    refine tO 7 ?_
    refine x03 (by kernel_rfl) (xDY (w := w2.drew) (H2.out.blk.drew.cell 0) (x27 H2.out.dat).2.2.1 (by have := H1.out.2.2.d; omega) k l (by omega) (by omega)) ?_
    rintro e w3 ⟨rfl, hb3⟩
    have hb3' : Below w2.heap.size w2 w3 := x0L hb3
    have hS3 := hS.of (hb3.block _ hS.lt)
    refine ⟨_, rfl, hS3, ?_⟩
    simp only [nH, pu, nB, nC, nD]
    obtain ⟨w4, hrun, hw4, hb4, hst4⟩ := xLI (H2.out.below hb3') (by have := hb3'.size; omega) k l
    have hS4 : Blk w4 g3 52 (stepC ⟨9, (k : Int), (l : Int), nm, dt⟩ Dx cx) := hS3.of (hst4 _ _ hS3)
    have HRUN := kH hrun
    refine tO 8 ?_
    refine x0A (v := .tuple #[]) (w' := w4) (by have q := HRUN.out; go_simp) ⟨hS4, ?_⟩
    simp only [nH, pu, nB, nC, nD]
    have hfin : StepTo w B gw gs (insideW W ⟨9, (k : Int), (l : Int), nm, dt⟩).1 (errV (insideW W ⟨9, (k : Int), (l : Int), nm, dt⟩).2) (.returned .nilIface) w4 := by
     rw [HIN.out]
     exact ⟨rfl, hw4, (HBB.out.trans (hb3'.mono hBw2)).trans hb4⟩
    clear hw4 hb4 hst4 hS4 hb3 hb3' hS3 hrun
    have HFIN := kH hfin
    clear hfin hS
    refine tE ?_
    go_wp2
    go_ret
    exact HFIN.out
   ·obtain ⟨k, rfl⟩ : ∃ k : Nat, at_ = (k : Int) := ⟨at_.toNat, by have := HRR.out; simp [reachesB] at this; omega⟩
    have hkl : k <= 65536 := by have := HRR.out; simp [reachesB] at this; omega
    have hin : insideW W ⟨10, (k : Int), ln, nm, dt⟩ = ({W with d := resizeB W.d k}, 0) := by simp [insideW, HRR.out]
    have HIN := kH hin
    clear hin
    go_wp2_with (first | rw [<- HW1.out.1, <- HW1.out.2] | (refine x2Y rfl (.tmp 3) rfl g3 _ Dx cx rfl K1 ?_))
    refine HR.out.mono ?_
    rintro e w2 ⟨rfl, hb2⟩
    have h2 := H1.out.1.below hb2
    have K2 := K1.of (hb2.block _ K1.lt)
    have hbb : Below B w w2 := HB1.out.trans (hb2.mono hBw1)
    have hBw2 : B <= w2.heap.size := by have := hb2.size; omega
    have q00 : w2.cell? ⟨g3, 0, none⟩ = some (.int .i64 10) := K2.cell 0
    have HX2 := kH (H1.out.2.1.since hb2)
    have H2 := kH h2
    have HBB := kH hbb
    clear hb2 h2 hbb HR q0
    go_wp2_with fail
    have hS : Blk w2.drew g3 52 (stepC ⟨10, (k : Int), ln, nm, dt⟩ Dx cx) := K2.drew
    refine x09 (fun w' => Blk w' g3 52 (stepC ⟨10, (k : Int), ln, nm, dt⟩ Dx cx)) 99 (by kernel_rfl) ?_
    refine tV 0 (.pointer (some ⟨gw, 0, none⟩)) rfl (fun w hw => by kernel_rfl) hS ?_
    refine tV 1 (.pointer (some ⟨gw, 0, none⟩)) rfl (fun w hw => by kernel_rfl) hS ?_
    refine tV 2 (.pointer (some ⟨gw, 0, none⟩)) rfl (fun w hw => by go_simp) hS ?_
    refine tV 3 (.pointer (some ⟨g3, 1, none⟩)) rfl (fun w hw => by go_simp) hS ?_
    refine tV 4 (.int .i64 (k : Int)) rfl (fun w hw => by have q := (HC.out w hw).1; go_simp) hS ?_
    refine tO 5 ?_
    refine x03 (by kernel_rfl) (xJN (H2.out.below (w' := w2.drew) (x08 (kB _ _) 1)) hBw2 (by have := H1.out.2.2.d; omega) (n := k) (by omega)) ?_
    rintro e w4 ⟨⟨rfl, hw4, hb4⟩, hst4⟩
    have hS4 : Blk w4 g3 52 (stepC ⟨10, (k : Int), ln, nm, dt⟩ Dx cx) := hS.of (hst4 _ _ hS)
    refine ⟨_, rfl, hS4, ?_⟩
    simp only [nH, pu, nB, nC, nD]
    have hfin : StepTo w B gw gs (insideW W ⟨10, (k : Int), ln, nm, dt⟩).1 (errV (insideW W ⟨10, (k : Int), ln, nm, dt⟩).2) (.returned .nilIface) w4 := by
     rw [HIN.out]
     exact ⟨rfl, hw4, HBB.out.trans (x0L hb4)⟩
    clear hw4 hb4 hst4 hS4
    have HFIN := kH hfin
    clear hfin hS
    refine tE ?_
    go_wp2
    go_ret
    exact HFIN.out
   ·obtain ⟨k, rfl⟩ : ∃ k : Nat, at_ = (k : Int) := ⟨at_.toNat, by have := HRR.out; simp [reachesB] at this; omega⟩
    obtain ⟨l, rfl⟩ : ∃ l : Nat, ln = (l : Int) := ⟨ln.toNat, by have := HRR.out; simp [reachesB] at this; omega⟩
    have hin : insideW W ⟨13, (k : Int), (l : Int), nm, dt⟩ = ({W with told := W.told ++ [partB W.d k l]}, 0) := by simp [insideW, HRR.out]
    have HIN := kH hin
    clear hin
    go_wp2_with (first | rw [<- HW1.out.1, <- HW1.out.2] | (refine x2Y rfl (.tmp 3) rfl g3 _ Dx cx rfl K1 ?_))
    refine HR.out.mono ?_
    rintro e w2 ⟨rfl, hb2⟩
    have h2 := H1.out.1.below hb2
    have K2 := K1.of (hb2.block _ K1.lt)
    have hbb : Below B w w2 := HB1.out.trans (hb2.mono hBw1)
    have hBw2 : B <= w2.heap.size := by have := hb2.size; omega
    have q00 : w2.cell? ⟨g3, 0, none⟩ = some (.int .i64 13) := K2.cell 0
    have HX2 := kH (H1.out.2.1.since hb2)
    have H2 := kH h2
    have HBB := kH hbb
    clear hb2 h2 hbb HR q0
    go_wp2_with fail
    have hS : Blk w2.drew g3 52 (stepC ⟨13, (k : Int), (l : Int), nm, dt⟩ Dx cx) := K2.drew
    refine x09 (fun w' => Blk w' g3 52 (stepC ⟨13, (k : Int), (l : Int), nm, dt⟩ Dx cx)) 99 (by kernel_rfl) ?_
    refine tV 0 (.pointer (some ⟨gw, 0, none⟩)) rfl (fun w hw => by kernel_rfl) hS ?_
    refine tV 1 (.pointer (some ⟨gw, 0, none⟩)) rfl (fun w hw => by kernel_rfl) hS ?_
    refine tV 2 (.pointer (some ⟨gw, 0, none⟩)) rfl (fun w hw => by kernel_rfl) hS ?_
    refine tV 3 (.pointer (some ⟨gw, 0, none⟩)) rfl (fun w hw => by go_simp) hS ?_
    refine tV 4 (.pointer (some ⟨g3, 1, none⟩)) rfl (fun w hw => by go_simp) hS ?_
    refine tV 5 (.int .i64 (k : Int)) rfl (fun w hw => by have q := (HC.out w hw).1; go_simp) hS ?_
    refine tV 6 (.pointer (some ⟨g3, 2, none⟩)) rfl (fun w hw => by go_simp) hS ?_
    refine tV 7 (.int .i64 (l : Int)) rfl (fun w hw => by have q := (HC.out w hw).2.1; go_simp) hS ?_
    refine tO 8 ?_
    refine x03 (by kernel_rfl) (xDY (w := w2.drew) (H2.out.blk.drew.cell 0) (x27 H2.out.dat).2.2.1 (by have := H1.out.2.2.d; omega) k l (by omega) (by omega)) ?_
    rintro e w3 ⟨rfl, hb3⟩
    have hb3' : Below w2.heap.size w2 w3 := x0L hb3
    have hS3 := hS.of (hb3.block _ hS.lt)
    refine ⟨_, rfl, hS3, ?_⟩
    simp only [nH, pu, nB, nC, nD]
    have h3 := H2.out.below hb3'
    obtain ⟨A2, hpv, hpb, -⟩ := x9N (h3.dat.bytes h3.ok) (x27 h3.dat).2.2.1 k l
    have hpl : (partB W.d k l).length <= 1000000 := by have := H1.out.2.2.d; unfold partB; simp <;> omega
    have hT := xDE (nx := 0) (cx := c - partA W.d.length k) h3 (by have := hb3'.size; omega) H1.out.2.2.t hpb hpl
    rw [<- hpv] at hT
    have hT4 := hT
    refine tO 9 ?_
    refine x03 (by kernel_rfl) hT ?_
    rintro e w4 ⟨⟨rfl, hw4, hb4⟩, hst4⟩
    have hS4 : Blk w4 g3 52 (stepC ⟨13, (k : Int), (l : Int), nm, dt⟩ Dx cx) := hS3.of (hst4 _ _ hS3)
    refine ⟨_, rfl, hS4, ?_⟩
    simp only [nH, pu, nB, nC, nD]
    have hfin : StepTo w B gw gs (insideW W ⟨13, (k : Int), (l : Int), nm, dt⟩).1 (errV (insideW W ⟨13, (k : Int), (l : Int), nm, dt⟩).2) (.returned .nilIface) w4 := by
     rw [HIN.out]
     exact ⟨rfl, hw4, (HBB.out.trans (hb3'.mono hBw2)).trans hb4⟩
    clear hw4 hb4 hst4 hS4 hb3 hb3' hS3 h3 hpv hpb hpl hT hT4
    have HFIN := kH hfin
    clear hfin hS
    refine tE ?_
    go_wp2
    go_ret
    exact HFIN.out
theorem xOW (h : WkAt w B gw gs c ce ct D E T av kv tv W) (hB : B <= w.heap.size) (hbd : WBd W)
 {Bx cx : Nat} {Dx : OA} (hx : StepIn w x Bx Dx) (hBx : Bx <= B) 
 (hbl : ∀ w', Below w.heap.size w w' -> Calls prog 165 #[.pointer (some ⟨gs, 0, none⟩), .int .i64 x.at_] w' fun e w'' => e = .returned (.bool (isClientB x.at_ && bl.getD x.at_.toNat false)) /\ w' = w'') :
  Calls prog 65 #[.pointer (some ⟨gw, 0, none⟩), stepVal x Dx cx] w (StepTo w B gw gs (stepW bl W x).1 (errV (stepW bl W x).2)) := by
 obtain ⟨w1, hw1⟩ := kX (w.alloc (.cells #[.int .i64 x.kd, .int .i64 x.at_, .int .i64 x.ln, .string (strOf x.nm), .slice Dx x.dt.length cx] 52))
 obtain ⟨g3, hg3⟩ := kX w.heap.size
 have hb1 : Below w.heap.size w w1 := by rw [hw1]; exact (kB _ _).alloc (kR _) _
 have h1 := h.below hb1
 have K1 : Blk w1 g3 52 (stepC x Dx cx) := by rw [hw1, hg3]; exact kW w _ _
 have hx1 := hx.since hb1
 have hsz1 := hb1.size
 have HW1 := kH (kA hw1 hg3)
 have HB1 := kH (hb1.mono hB)
 have q0 : w1.cell? ⟨g3, 0, none⟩ = some (.int .i64 x.kd) := K1.cell 0
 have q3 : w1.cell? ⟨gw, 3, none⟩ = some (.bool W.th) := h1.blk.cell 3
 have H1 := kH h1
 have hBw1 : B <= w1.heap.size := by omega
 have hsv : stepVal x Dx cx = .agg #[.int .i64 x.kd, .int .i64 x.at_, .int .i64 x.ln, .string (strOf x.nm), .slice Dx x.dt.length cx] := rfl
 have hbl1 : ∀ w', Below w1.heap.size w1 w' -> Calls prog 165 #[.pointer (some ⟨gs, 0, none⟩), .int .i64 x.at_] w' fun e w'' => e = .returned (.bool (isClientB x.at_ && bl.getD x.at_.toNat false)) /\ w' = w'' := fun w' hb' => hbl w' (hb1.trans (hb'.mono hb1.size))
 by_cases c1 : 1 <= x.kd /\ x.kd <= 5
 ·have HN := kH (xIE (cx := cx) h1 hx1 c1.1 c1.2 hbl1)
  have hst : stepW bl W x = (W, needW bl W x) := by unfold stepW; rw [if_pos c1]
  have HST := kH hst
  have hkd : x.kd = 1 ∨ x.kd = 2 ∨ x.kd = 3 ∨ x.kd = 4 ∨ x.kd = 5 := by omega
  clear h hx hb1 hw1 hg3 h1 hx1 hbd hbl hbl1 hst c1
  rw [hsv] at HN ⊢
  generalize hke : x.kd = kd at *
  have HKE := kH hke
  clear hke
  go_enter func65, ntmps65
  rcases hkd with rfl | rfl | rfl | rfl | rfl
  all_goals
   go_wp2_with fail
   rw [<- HW1.out.1]
   refine HN.out.mono ?_
   rintro e w2 ⟨rfl, hb2⟩
   go_wp2
   go_ret
   rw [HST.out]
   exact ⟨rfl, ⟨_, _, _, _, _, _, _, _, _, H1.out.below hb2⟩, HB1.out.trans (hb2.mono hBw1)⟩
 by_cases c6 : x.kd = 6
 ·have HN := kH (xA7 h1 hBw1 true)
  have hst : stepW bl W x = (becomeW W true, 0) := by unfold stepW; rw [if_neg c1, if_pos c6]
  have HST := kH hst
  clear h hx hb1 hw1 hg3 h1 hx1 hbd hbl hbl1 hst c1
  rw [hsv]
  generalize hke : x.kd = kd at *
  clear hke
  subst c6
  go_enter func65, ntmps65
  go_wp2_with (first | rw [<- HW1.out.1, <- HW1.out.2])
  refine HN.out.mono ?_
  rintro e w2 ⟨rfl, hw2, hb2⟩
  go_wp2
  go_ret
  rw [HST.out]
  exact ⟨rfl, hw2, HB1.out.trans hb2⟩
 by_cases c7 : x.kd = 7
 ·have HN := kH (xA7 h1 hBw1 false)
  have hst : stepW bl W x = (becomeW W false, 0) := by unfold stepW; rw [if_neg c1, if_neg c6, if_pos c7]
  have HST := kH hst
  clear h hx hb1 hw1 hg3 h1 hx1 hbd hbl hbl1 hst c1 c6
  rw [hsv]
  generalize hke : x.kd = kd at *
  clear hke
  subst c7
  go_enter func65, ntmps65
  go_wp2_with (first | rw [<- HW1.out.1, <- HW1.out.2])
  refine HN.out.mono ?_
  rintro e w2 ⟨rfl, hw2, hb2⟩
  go_wp2
  go_ret
  rw [HST.out]
  exact ⟨rfl, hw2, HB1.out.trans hb2⟩
 by_cases c8 : 8 <= x.kd /\ x.kd <= 14
 ·cases hth : W.th
  ·have hst : stepW bl W x = (W, 6) := by unfold stepW; rw [if_neg c1, if_neg c6, if_neg c7, if_pos c8, hth]; rfl
   have HST := kH hst
   rw [hth] at q3
   have q3a := q3
   rw [hw1] at q3a
   have hkd : x.kd = 8 ∨ x.kd = 9 ∨ x.kd = 10 ∨ x.kd = 11 ∨ x.kd = 12 ∨ x.kd = 13 ∨ x.kd = 14 := by omega
   clear h hx hb1 hw1 hg3 h1 hx1 hbd hbl hbl1 hst c1 c6 c7 c8
   rw [hsv]
   generalize hke : x.kd = kd at *
   clear hke
   go_enter func65, ntmps65
   rcases hkd with rfl | rfl | rfl | rfl | rfl | rfl | rfl
   all_goals
    go_wp2_with (first | rw [<- HW1.out.1, <- HW1.out.2])
    go_ret
    rw [HST.out]
    exact ⟨rfl, ⟨_, _, _, _, _, _, _, _, _, H1.out⟩, HB1.out⟩
  ·have HN := kH (xGV (cx := cx) h1 hBw1 hth hbd hx1 hBx c8)
   have hst : stepW bl W x = insideW W x := by unfold stepW; rw [if_neg c1, if_neg c6, if_neg c7, if_pos c8, hth]; rfl
   have HST := kH hst
   rw [hth] at q3
   have q3a := q3
   rw [hw1] at q3a
   have hkd : x.kd = 8 ∨ x.kd = 9 ∨ x.kd = 10 ∨ x.kd = 11 ∨ x.kd = 12 ∨ x.kd = 13 ∨ x.kd = 14 := by omega
   clear h hx hb1 hw1 hg3 h1 hx1 hbd hbl hbl1 hst c1 c6 c7 c8
   rw [hsv] at HN ⊢
   generalize hke : x.kd = kd at *
   have HKE := kH hke
   clear hke
   go_enter func65, ntmps65
   rcases hkd with rfl | rfl | rfl | rfl | rfl | rfl | rfl
   all_goals
    go_wp2_with fail
    rw [<- HW1.out.1]
    refine HN.out.mono ?_
    rintro e w2 ⟨rfl, hw2, hb2⟩
    go_wp2
    go_ret
    rw [HST.out]
    exact ⟨rfl, hw2, HB1.out.trans hb2⟩
 ·have hst : stepW bl W x = (W, 2) := by unfold stepW; rw [if_neg c1, if_neg c6, if_neg c7, if_neg c8]
  have HST := kH hst
  have d1 : (x.kd == 1) = false := beq_eq_false_iff_ne.2 (by omega)
  have d2 : (x.kd == 2) = false := beq_eq_false_iff_ne.2 (by omega)
  have d3 : (x.kd == 3) = false := beq_eq_false_iff_ne.2 (by omega)
  have d4 : (x.kd == 4) = false := beq_eq_false_iff_ne.2 (by omega)
  have d5 : (x.kd == 5) = false := beq_eq_false_iff_ne.2 (by omega)
  have d6 : (x.kd == 6) = false := beq_eq_false_iff_ne.2 (by omega)
  have d7 : (x.kd == 7) = false := beq_eq_false_iff_ne.2 (by omega)
  have d8 : (x.kd == 8) = false := beq_eq_false_iff_ne.2 (by omega)
  have d9 : (x.kd == 9) = false := beq_eq_false_iff_ne.2 (by omega)
  have d10 : (x.kd == 10) = false := beq_eq_false_iff_ne.2 (by omega)
  have d11 : (x.kd == 11) = false := beq_eq_false_iff_ne.2 (by omega)
  have d12 : (x.kd == 12) = false := beq_eq_false_iff_ne.2 (by omega)
  have d13 : (x.kd == 13) = false := beq_eq_false_iff_ne.2 (by omega)
  have d14 : (x.kd == 14) = false := beq_eq_false_iff_ne.2 (by omega)
  clear h hx hb1 hw1 hg3 h1 hx1 hbd hbl hbl1 hst c1 c6 c7 c8
  rw [hsv]
  go_enter func65, ntmps65
  go_wp2
  go_ret
  rw [HST.out, <- HW1.out.1]
  exact ⟨rfl, ⟨_, _, _, _, _, _, _, _, _, H1.out⟩, HB1.out⟩
theorem xLC {a b : List (Nat × Nat)} (h : natE a = natE b) : a = b := by
 unfold natE at h
 exact List.map_inj_right (fun x y e => by
  obtain ⟨x1, x2⟩ := x
  obtain ⟨y1, y2⟩ := y
  simp at e
  simp
  omega) |>.1 h
def foot (g r : Nat) (fl : List Bool) : LN := if fl = [] then [g] else [g, r]
theorem x1X (h : k ∈ foot g r fl) : k = g ∨ (fl ≠ [] /\ k = r) := by
 unfold foot at h
 split at h
 ·simp at h; exact .inl h
 ·rename_i hf
  simp at h
  rcases h with h | h
  ·exact .inl h
  ·exact .inr ⟨hf, h⟩
theorem SAt.foot_typed (h : SAt w g r A c fl left) (hk : k ∈ foot g r fl) : ∃ t cs, Blk w k t cs /\ (t = 190 ∨ t = 4) := by
 rcases x1X hk with rfl | ⟨hf, rfl⟩
 ·exact ⟨_, _, h.blk, .inl rfl⟩
 ·rcases h.row with e | ⟨_, cs, hb, _⟩
  ·exact absurd e hf
  ·exact ⟨_, cs, hb, .inr rfl⟩
theorem SAt.foot_odd (h : SAt w g r A c fl left) {e : TypeId} (h1 : e ≠ 190) (h2 : e ≠ 4) (hk : k ∈ foot g r fl) : Odd w e k := by
 obtain ⟨t, cs, hb, rfl | rfl⟩ := h.foot_typed hk
 ·exact Odd.blk hb h1.symm
 ·exact Odd.blk hb h2.symm
theorem SAt.foot_lt (h : SAt w g r A c fl left) (hk : k ∈ foot g r fl) : k < w.heap.size := by
 obtain ⟨t, cs, hb, _⟩ := h.foot_typed hk
 exact hb.lt
theorem xBV (h : Only [g, w.heap.size] w w') : Only (foot g r []) w w' := ⟨h.os, h.tape, h.output, h.size, fun i hi hn => h.block i hi (by simp [foot] at hn ⊢; omega)⟩
theorem x3U (hf : fl ≠ []) (h : Only [g, r] w w') : Only (foot g r fl) w w' := by unfold foot; rw [if_neg hf]; exact h
theorem SAt.rest {r' : Nat} (h : SAt w g r A c fl left) (e : fl = []) : SAt w g r' A c fl left := ⟨h.blk, h.cap, h.lim, .inl e⟩
def TakeF (w : World) (g r c : Nat) (A : OA) (fl : List Bool) (n : Nat) (e : Ending) (w' : World) : Prop :=
  Only (foot g r fl) w w' ∧
  ((cnt fl < n /\ e = .returned (.tuple #[.slice none 0 0, errV 4]) /\ SAt w' g r A c fl (cnt fl)) ∨
   (∃ (v : Value) (out : List (Nat × Nat)), n <= cnt fl /\ e = .returned (.tuple #[v, .nilIface]) /\ OwnE w' w.heap.size v (natE out) /\ Chosen (hol 0 fl) n out /\ SAt w' g r A c (setA fl out false) (cnt (setA fl out false))))
theorem xKI (n : Nat) (h : SAt w g r A c fl (cnt fl)) (hgr : g ≠ r) :
  Calls prog 176 #[.pointer (some ⟨g, 0, none⟩), .int .i64 n] w (TakeF w g r c A fl n) := by
 by_cases hf : fl = []
 ·subst hf
  refine (xBJ (r := w.heap.size) n (h.rest rfl) (by have := h.blk.lt; omega)).mono ?_
  rintro e w' ⟨ho, ⟨h1, _⟩ | ⟨h1, rfl, hs⟩ | ⟨k, v, out, h1, hk, rfl, hv, hc, hs⟩⟩
  ·omega
  ·exact ⟨xBV ho, .inl ⟨by omega, rfl, hs.rest rfl⟩⟩
  ·obtain rfl : n = k := by omega
   have hk0 : n = 0 := by simp [cnt] at hk; omega
   have : out = [] := by rw [hk0] at hc; exact hc.zero
   subst this
   exact ⟨xBV ho, .inr ⟨v, [], hk, rfl, hv, hc, hs.rest rfl⟩⟩
 ·refine (xBJ n h hgr).mono ?_
  rintro e w' ⟨ho, ⟨h1, _⟩ | ⟨h1, rfl, hs⟩ | ⟨k, v, out, h1, hk, rfl, hv, hc, hs⟩⟩
  ·omega
  ·exact ⟨x3U hf ho, .inl ⟨by omega, rfl, hs⟩⟩
  ·obtain rfl : n = k := by omega
   exact ⟨x3U hf ho, .inr ⟨v, out, hk, rfl, hv, hc, hs⟩⟩
theorem xKR (es : List (Nat × Nat)) (hI : ∀ e ∈ es, 1 <= e.2 /\ e.1 <= 65536 /\ e.2 <= 65536) (hok : OkA fl es true) (h : SAt w g r A c fl (cnt fl)) (hgr : g ≠ r) (E : OA) (c' : Nat) (hc' : es.length <= c') (hR : ExtR w B E (natE es)) (hB : B <= w.heap.size)
 (hfar : ∀ ad, E = some ad -> ad.block ∉ foot g r fl) (hle : es.length <= 65536) :
    Calls prog 174 #[.pointer (some ⟨g, 0, none⟩), .slice E es.length c'] w fun e w' => e = .returned .nilIface /\ Only (foot g r fl) w w' /\ SAt w' g r A c (setA fl es true) (cnt (setA fl es true)) := by
  have hturn : TurnOk fl (natE es) true es := ⟨rfl, fun e he => (hI e he).1, hok⟩
  have hI2 : ∀ e ∈ natE es, InI e := fun e he => by
    simp only [natE, List.mem_map] at he
    obtain ⟨q, hq, rfl⟩ := he
    have := hI q hq
    simp only [InI]
    omega
  have hnl : (natE es).length = es.length := x0T es
  have post : ∀ (r' : Nat), (fl = [] ∨ r' = r) -> ∀ e w', TurnTo w g r' c A fl (natE es) true e w' -> Only (foot g r fl) w w' -> e = .returned .nilIface /\ Only (foot g r fl) w w' /\ SAt w' g r A c (setA fl es true) (cnt (setA fl es true)) := by
    rintro r' hr' e w' ⟨ho, ⟨ns, hns, rfl, hs⟩ | ⟨hno, _⟩⟩ hof
    · obtain rfl : ns = es := xLC (hns.1.symm.trans hturn.1)
      refine ⟨rfl, hof, ?_⟩
      rcases hr' with e | e
      · exact hs.rest (eq_nil_of_length_eq_zero (by rw [hok.len, e]; rfl))
      · subst e; exact hs
    · exact absurd hturn (hno _)
  by_cases hf : fl = []
  · obtain ⟨eb, heb⟩ : ∃ eb, ∀ ad, E = some ad -> ad.block = eb := by
      cases E with
      | none => exact ⟨0, fun ad e => by cases e⟩
      | some a => exact ⟨a.block, fun ad e => by injection e with e; rw [e]⟩
    have := xBQ (r := w.heap.size + g + eb + 1) (natE es) hI2 (h.rest hf) (by omega) E c' (by rw [hnl]; exact hc') hR hB (fun ad e => ⟨by have := hfar ad e; simp [foot, hf] at this; exact this, by have := heb ad e; omega⟩) (by rw [hnl]; exact hle)
    rw [hnl] at this
    refine this.mono fun e w' ht => post _ (.inl hf) e w' ht ?_
    subst hf
    exact ⟨ht.1.os, ht.1.tape, ht.1.output, ht.1.size, fun i hi hn => ht.1.block i hi (by simp [foot] at hn ⊢; omega)⟩
  · have := xBQ (natE es) hI2 h hgr E c' (by rw [hnl]; exact hc') hR hB (fun ad e => by have := hfar ad e; simp [foot, hf] at this; exact this) (by rw [hnl]; exact hle)
    rw [hnl] at this
    exact this.mono fun e w' ht => post _ (.inr rfl) e w' ht (x3U hf ht.1)
theorem xNZ (a b : List (Nat × Nat)) : natE (a ++ b) = natE a ++ natE b := by simp [natE]
def FitTo (w0 w : World) (gw gs ms gp r c : Nat) (A : OA) (bl fl : List Bool) (kvs : KV) (W : Wk) (e : Ending) (w' : World) : Prop :=
  Only (foot gp r fl) w0 w' /\ w.heap.size <= w'.heap.size /\ ∃ es fl' k, FitR fl W es fl' k /\ e = .returned (errV k) /\ StAt w' gs ms gp r c A bl fl' kvs /\ Wkd w' w0.heap.size gw gs {W with e := es}
theorem WkAt.exts (h : WkAt w B gw gs c ce ct D E T av kv tv W) {E' : OA} {ce' : Nat} {es : List (Nat × Nat)} (hm : m = es.length)
 (hb : Blk w' gw 139 ((workC D W.d.length c av E W.e.length ce W.th T W.told.length ct gs).setIfInBounds 2 (.slice E' m ce'))) (ho : OwnE w' B (.slice E' m ce') (natE es)) (hon : Only G w w') (hG : ∀ k ∈ G, k < w.heap.size -> Odd w 5 k /\ Odd w 35 k /\ (∀ mb, av = .map (some mb) -> k ≠ mb)) : Wkd w' B gw gs {W with e := es} := by
 subst hm
 have hu : ∀ {base size n : Nat} {e : TypeId} {v : Value} {xs : List Value}, w.ownsRow base e size v n xs -> (∀ k ∈ G, k < w.heap.size -> Odd w e k) -> w'.ownsRow base e size v n xs := fun h1 hx => x13 h1 hon fun k hk hm => by
  obtain ⟨cs, hb⟩ := x0J h1 (x00.1 hk)
  exact hx k hm (x02 h1 k hk) cs hb
 have hrow : ∀ {base : Nat} {F : LN} {u : Value} {bs : LN}, RowR w base F u bs -> RowR w' base F u bs := fun hr => by
  obtain ⟨A, c, e, h1, h2, h3⟩ := hr
  exact ⟨A, c, e, hu h1 fun k hk hl => (hG k hk hl).1, h2, h3⟩
 refine ⟨c, ce', ct, D, E', T, av, kv, tv, ⟨hb, h.gB, hu h.dat fun k hk hl => (hG k hk hl).1, h.ok, ?_, h.att.imp fun a b hr => ⟨hr.1, hrow hr.2⟩, ho, hu h.tol fun k hk hl => (hG k hk hl).2.1, h.els.imp fun a b hr => hrow hr⟩⟩
 rcases h.map with e | ⟨mb, e, h1, h2⟩
 ·exact .inl e
 ·exact .inr ⟨mb, e, h1, h2.of (hon.block mb h2.lt fun hm => (hG mb hm h2.lt).2.2 mb e rfl)⟩
theorem StAt.turned (h : StAt w gs ms gp r c A bl fl kv) (ho : Only G w w') (hs : gs ∉ G) (hm : ms ∉ G) (hsp : SAt w' gp r A c fl' (cnt fl')) : StAt w' gs ms gp r c A bl fl' kv :=
  ⟨h.blk.of (ho.block _ h.blk.lt hs), h.len, h.map.of (ho.block _ h.map.lt hm), hsp, h.ne⟩
theorem xP0 (h : WkAt w w0.heap.size gw gs c ce ct D E T av kv tv W) (hb0 : Below w0.heap.size w0 w)
 (hst0 : StAt w0 gs ms gp r c1 A1 bl fl kvs) (hd : W.d.length <= 65536) (hpos : ∀ e ∈ W.e, 1 <= e.2 /\ e.1 <= 65536 /\ e.2 <= 65536) (hle : lens W.e <= 65536) (hel : W.e.length <= 65536) (hgv : needsB W.d < lens W.e -> OkA fl (shedR W.e.reverse (lens W.e - needsB W.d)).2 true /\ (∀ e ∈ (shedR W.e.reverse (lens W.e - needsB W.d)).2, 1 <= e.2 /\ e.1 <= 65536 /\ e.2 <= 65536) /\ (shedR W.e.reverse (lens W.e - needsB W.d)).2.length <= 65536) :
    Calls prog 117 #[.pointer (some ⟨gw, 0, none⟩)] w (FitTo w0 w gw gs ms gp r c1 A1 bl fl kvs W) := by
  have hst := hst0.below hb0
  have hs0 := hb0.size
  have hneed : needsB W.d <= 4096 := by unfold needsB; omega
  have c5 : w.cell? ⟨gw, 5, none⟩ = some (.pointer (some ⟨gs, 0, none⟩)) := h.blk.cell 5
  have q9 := hst.c9
  have HH := kH (kA h (kA hb0 (kA hst0 hst)))
  have HP := kH (kA hpos hgv)
  have HHAS : Hid (∀ w', Below w.heap.size w w' -> Calls prog 172 #[.pointer (some ⟨gw, 0, none⟩)] w' fun e w'' => e = .returned (.int .i64 (lens W.e)) /\ Below w'.heap.size w' w'') := kH fun w' hb => by
    have h' := h.below hb
    exact xBG (g := gw) (h'.blk.cell 2) (OwnE.ext (by rw [x0T]; exact h'.ext)) (kR _) (by omega) (by omega)
  have HNEED : Hid (∀ w', Below w.heap.size w w' -> Calls prog 173 #[.pointer (some ⟨gw, 0, none⟩)] w' fun e w'' => e = .returned (.int .i64 (needsB W.d : Nat)) /\ w' = w'') := kH fun w' hb => xC3 (g := gw) ((h.below hb).blk.cell 0) (by omega)
  have hgl : gp < w0.heap.size := hst0.sp.blk.lt
  clear h hb0 hst0 hst hpos hgv
  go_enter func117, ntmps117
  go_upto_region 2 with (fail)
  refine x09 (fun _ => True) 99 (by kernel_rfl) ?_
  refine tV 0 (.pointer (some ⟨gw, 0, none⟩)) rfl (fun w hw => by kernel_rfl) trivial ?_
  refine tV 1 (.pointer (some ⟨gw, 0, none⟩)) rfl (fun w hw => by kernel_rfl) trivial ?_
  refine tV 2 (.pointer (some ⟨gw, 0, none⟩)) rfl (fun w hw => by go_simp) trivial ?_
  refine tV 4 (.pointer (some ⟨gw, 0, none⟩)) rfl (fun w hw => by kernel_rfl) trivial ?_
  refine tV 5 (.pointer (some ⟨gw, 0, none⟩)) rfl (fun w hw => by kernel_rfl) trivial ?_
  refine tV 6 (.pointer (some ⟨gw, 0, none⟩)) rfl (fun w hw => by go_simp) trivial ?_
  refine tO 3 ?_
  refine x03 (by kernel_rfl) (HHAS.out w.drew (x08 (kB _ _) 1)) ?_
  rintro e w1 ⟨rfl, hb1⟩
  have hb1' : Below w.heap.size w w1 := x0L hb1
  refine ⟨_, rfl, trivial, ?_⟩
  simp only [nH, pu, nB, nC, nD]
  refine tO 7 ?_
  refine x03 (by kernel_rfl) (HNEED.out w1 hb1') ?_
  rintro e w2 ⟨rfl, rfl⟩
  refine ⟨_, rfl, trivial, ?_⟩
  simp only [nH, pu, nB, nC, nD]
  have hwr : IntKind.i64.wrap ((lens W.e : Int) - (needsB W.d : Int)) = (lens W.e : Int) - (needsB W.d : Int) := by rw [kI]; omega
  refine tO 8 ?_
  refine x0A (v := .int .i64 ((lens W.e : Int) - (needsB W.d : Int))) (w' := w1) (by go_simp) ⟨trivial, ?_⟩
  simp only [nH, pu, nB, nC, nD]
  refine tO 9 ?_
  refine x0A (v := .int .i64 ((lens W.e : Int) - (needsB W.d : Int))) (w' := w1) (by kernel_rfl) ⟨trivial, ?_⟩
  simp only [nH, pu, nB, nC, nD]
  refine tE ?_
  have HB1 := kH hb1'
  have h1 := HH.out.1.below hb1'
  have HW1 := kH h1
  clear hb1 hb1' h1 c5 q9
  by_cases hov : needsB W.d < lens W.e
  -- {A
  · have hd1 : decide ((0 : Int) < (lens W.e : Int) - (needsB W.d : Int)) = true := decide_eq_true (by omega)
    obtain ⟨n, hn⟩ : ∃ n : Nat, n = lens W.e - needsB W.d := ⟨_, rfl⟩
    have hni : (lens W.e : Int) - (needsB W.d : Int) = (n : Int) := by omega
    rw [hni] at hd1 ⊢
    obtain ⟨hok, hfit, hgl2⟩ := HP.out.2 hov
    rw [<- hn] at hok hfit hgl2
    have hne : W.e ≠ [] := fun e => by rw [e] at hov; simp [lens] at hov
    obtain ⟨b, rfl⟩ : ∃ b, E = some ⟨b, 0, none⟩ := by
      rcases HW1.out.ext.2 with ⟨e, h0⟩ | ⟨b, cap, cur, e, _⟩
      · rw [x0T] at h0
        exact absurd (eq_nil_of_length_eq_zero h0) hne
      · injection e with e
        exact ⟨b, e⟩
    have HS := kH (xLX (n := n) (es := W.e) HW1.out.blk (by decide) (by rfl) HW1.out.ext (fun e he => (HP.out.1 e he).1) (by omega) (fun e he => by have := HP.out.1 e he; omega) (by omega) (by omega))
    have HNN := kH hn
    have hnb : n <= 65536 := by omega
    have hd2 : decide (0 < n) = true := decide_eq_true (by omega)
    have hd3 : 0 < n := by omega
    clear hn hni
    go_wp2_with fail
    refine HS.out.mono ?_
    rintro e w3 ⟨lv, rfl, hk3, ho3, hg3, hon3⟩
    obtain ⟨E3, c3, hlv, hE3⟩ := hg3.form
    rw [x0T] at hlv
    subst hlv
    have hst1 : StAt w1 gs ms gp r c1 A1 bl fl kvs := HH.out.2.2.2.below HB1.out
    have hlt : gs < w0.heap.size /\ ms < w0.heap.size := ⟨HH.out.2.2.1.blk.lt, HH.out.2.2.1.map.lt⟩
    have hgwB := HH.out.1.gB
    have hbB : w0.heap.size <= b := x0G HW1.out.ext b (by simp [rowOf, Value.ownBlock])
    have hz1 := HB1.out.size
    have hfo : ∀ k ∈ foot gp r fl, k < w0.heap.size := fun k hk => HH.out.2.2.1.sp.foot_lt hk
    have hsp3 : SAt w3 gp r A1 c1 fl (cnt fl) := by
      have hx := hst1.sp
      refine ⟨hx.blk.of (hon3.block _ hx.blk.lt (by simp; omega)), hx.cap, hx.lim, ?_⟩
      by_cases hf : fl = []
      · exact .inl hf
      rcases hx.row with e | ⟨e, cs, hb, hc⟩
      · exact .inl e
      · have := hfo r (by unfold foot; rw [if_neg hf]; simp)
        exact .inr ⟨e, cs, hb.of (hon3.block _ hb.lt (by simp; omega)), hc⟩
    have hext3 : ExtR w3 w3.heap.size E3 (natE (shedR W.e.reverse n).2) := OwnE.ext (by rw [x0T]; exact hg3)
    have hcap3 : (shedR W.e.reverse n).2.length <= c3 := by
      rcases hg3.2 with ⟨e, h0⟩ | ⟨_, _, _, e, _, _, hx, _⟩
      · rw [x0T] at h0; omega
      · injection e with _ _ e; rw [x0T] at hx; omega
    have HG := kH (xKR (shedR W.e.reverse n).2 hfit hok hsp3 HH.out.2.2.1.ne E3 c3 hcap3 hext3 (kR _) (fun ad hA hm => by have := (hE3 ad hA).1; have := hfo _ hm; omega) hgl2)
    go_wp2_with fail
    refine HG.out.mono ?_
    rintro e w4 ⟨rfl, hon4, hsp4⟩
    have hsl3 := hon3.size
    have hG13 : ∀ k ∈ foot gp r fl ++ [gw, b], k ∈ foot gp r fl ∨ k = gw ∨ k = b := fun k hk => by
      rcases mem_append.1 hk with h | h
      · exact .inl h
      · simp at h; exact .inr h
    have hon34 : Only (foot gp r fl ++ [gw, b]) w1 w4 := (hon3.mono (fun k hk => mem_append.2 (.inr hk))).trans (hon4.mono (fun k hk => mem_append.2 (.inl hk))) (kF _ _)
    have hex : ∃ cs, Blk w1 b 198 cs := x0J HW1.out.ext rfl
    have hfin : FitTo w0 w gw gs ms gp r c1 A1 bl fl kvs W (.returned .nilIface) w4 := by
      refine ⟨?_, ?_, (shedR W.e.reverse n).1.reverse, setA fl (shedR W.e.reverse n).2 true, 0, ?_, rfl, ?_, ?_⟩
      · refine (kO (HH.out.2.1.trans (HB1.out.mono hs0)) _).trans hon34 (fun k hk => ?_)
        rcases hG13 k hk with h | h | h
        · exact .inl h
        · subst h; exact .inr hgwB
        · subst h; exact .inr hbB
      · have := hon34.size; omega
      · rw [HNN.out]
        exact .give hov
      · refine StAt.turned hst1 hon34 (fun hm => ?_) (fun hm => ?_) hsp4
        · rcases hG13 _ hm with h | h | h
          · exact hst1.sp.foot_odd (by decide) (by decide) h _ hst1.blk
          · omega
          · omega
        · rcases hG13 _ hm with h | h | h
          · obtain ⟨t, cs, hb, _⟩ := hst1.sp.foot_typed h
            exact hst1.map.ne_blk hb rfl
          · omega
          · omega
      · refine HW1.out.exts (G := foot gp r fl ++ [gw, b]) (m := (shedR W.e.reverse n).1.length) (ce' := ce) (E' := some ⟨b, 0, none⟩) (by simp) (hk3.of (hon4.block _ hk3.lt (fun hm => by have := hfo _ hm; omega))) ?_ hon34 (fun k hk hl => ?_)
        · exact x06 ho3 fun k hk => hon4.block k (x02 ho3 k hk) (fun hm => by have := hfo _ hm; have := x0G ho3 k hk; omega)
        · rcases hG13 k hk with h | h | h
          · refine ⟨hst1.sp.foot_odd (by decide) (by decide) h, hst1.sp.foot_odd (by decide) (by decide) h, fun mb hav e => ?_⟩
            rcases HW1.out.map with ⟨e', _⟩ | ⟨mb', e', hmB, _⟩
            · rw [e'] at hav; cases hav
            · rw [e'] at hav; injection hav with hav; injection hav with hav
              have := hfo _ h; omega
          · subst h
            refine ⟨Odd.blk HW1.out.blk (by decide), Odd.blk HW1.out.blk (by decide), fun mb hav e => ?_⟩
            rcases HW1.out.map with ⟨e', _⟩ | ⟨mb', e', hmB, hmm⟩
            · rw [e'] at hav; cases hav
            · rw [e'] at hav; injection hav with hav; injection hav with hav
              subst hav
              exact hmm.ne_blk HW1.out.blk e.symm
          · subst h
            obtain ⟨cs, hb⟩ := hex
            refine ⟨Odd.blk hb (by decide), Odd.blk hb (by decide), fun mb hav e => ?_⟩
            rcases HW1.out.map with ⟨e', _⟩ | ⟨mb', e', hmB, hmm⟩
            · rw [e'] at hav; cases hav
            · rw [e'] at hav; injection hav with hav; injection hav with hav
              subst hav
              exact hmm.ne_blk hb e.symm
    have HFIN := kH hfin
    clear hfin hon34 hsp4 hon4 hext3 hsp3 hst1 hon3 ho3 hg3 hk3 HG HS
    go_wp2
    go_ret
    exact HFIN.out
  -- A}
  -- {Bq
  · have hd1 : decide ((0 : Int) < (lens W.e : Int) - (needsB W.d : Int)) = false := decide_eq_false (by omega)
    obtain ⟨n, hn⟩ : ∃ n : Nat, n = needsB W.d - lens W.e := ⟨_, rfl⟩
    have hni : (needsB W.d : Int) - (lens W.e : Int) = (n : Int) := by omega
    have hnb : n <= 65536 := by omega
    have hwr2 : IntKind.i64.wrap ((needsB W.d : Int) - (lens W.e : Int)) = (n : Int) := by rw [hni, kI]; omega
    have HNN := kH hn
    clear hn hni
    go_upto_region 5 with (fail)
    refine x09 (fun _ => True) 99 (by kernel_rfl) ?_
    refine tV 0 (.pointer (some ⟨gp, 0, none⟩)) rfl (fun w hw => by kernel_rfl) trivial ?_
    refine tV 1 (.pointer (some ⟨gw, 0, none⟩)) rfl (fun w hw => by kernel_rfl) trivial ?_
    refine tV 2 (.pointer (some ⟨gw, 0, none⟩)) rfl (fun w hw => by kernel_rfl) trivial ?_
    refine tV 3 (.pointer (some ⟨gw, 0, none⟩)) rfl (fun w hw => by go_simp) trivial ?_
    refine tV 5 (.pointer (some ⟨gw, 0, none⟩)) rfl (fun w hw => by kernel_rfl) trivial ?_
    refine tV 6 (.pointer (some ⟨gw, 0, none⟩)) rfl (fun w hw => by kernel_rfl) trivial ?_
    refine tV 7 (.pointer (some ⟨gw, 0, none⟩)) rfl (fun w hw => by go_simp) trivial ?_
    refine tO 4 ?_
    refine x03 (by kernel_rfl) (HNEED.out w1.drew (x08 HB1.out 1)) ?_
    rintro e w2 ⟨rfl, rfl⟩
    refine ⟨_, rfl, trivial, ?_⟩
    simp only [nH, pu, nB, nC, nD]
    refine tO 8 ?_
    refine x03 (by kernel_rfl) (HHAS.out w1.drew (x08 HB1.out 1)) ?_
    rintro e w2 ⟨rfl, hb2⟩
    have hb2' : Below w.heap.size w w2 := HB1.out.trans ((x0L hb2).mono HB1.out.size)
    refine ⟨_, rfl, trivial, ?_⟩
    simp only [nH, pu, nB, nC, nD]
    refine tO 9 ?_
    refine x0A (v := .int .i64 (n : Int)) (w' := w2) (by go_simp) ⟨trivial, ?_⟩
    simp only [nH, pu, nB, nC, nD]
    refine tO 10 ?_
    have hst2 : StAt w2 gs ms gp r c1 A1 bl fl kvs := HH.out.2.2.2.below hb2'
    have hw2 := HH.out.1.below hb2'
    refine x03 (by kernel_rfl) (xKI n hst2.sp hst2.ne) ?_
    rintro e w3 ⟨hon3, hcase⟩
    have hlt : gs < w0.heap.size /\ ms < w0.heap.size := ⟨HH.out.2.2.1.blk.lt, HH.out.2.2.1.map.lt⟩
    have hgwB := HH.out.1.gB
    have hz2 := hb2'.size
    have hfo : ∀ k ∈ foot gp r fl, k < w0.heap.size := fun k hk => HH.out.2.2.1.sp.foot_lt hk
    have hb02 : Below w0.heap.size w0 w2 := HH.out.2.1.trans (hb2'.mono hs0)
    have hon03 : Only (foot gp r fl) w0 w3 := (kO hb02 _).trans hon3 (kF _ _)
    have hgsf : gs ∉ foot gp r fl := fun hm => hst2.sp.foot_odd (by decide) (by decide) hm _ hst2.blk
    have hmsf : ms ∉ foot gp r fl := fun hm => by
      obtain ⟨t, cs, hb, _⟩ := hst2.sp.foot_typed hm
      exact hst2.map.ne_blk hb rfl
    have hodd : ∀ k ∈ foot gp r fl, k < w2.heap.size -> Odd w2 5 k /\ Odd w2 35 k /\ (∀ mb, av = .map (some mb) -> k ≠ mb) := fun k hk hl => ⟨hst2.sp.foot_odd (by decide) (by decide) hk, hst2.sp.foot_odd (by decide) (by decide) hk, fun mb hav e => by
      rcases hw2.map with ⟨e', _⟩ | ⟨mb', e', hmB, _⟩
      · rw [e'] at hav; cases hav
      · rw [e'] at hav; injection hav with hav; injection hav with hav
        have := hfo _ hk; omega⟩
    have K3 : Blk w3 gw 139 (workC D W.d.length c av E W.e.length ce W.th T W.told.length ct gs) := hw2.blk.of (hon3.block _ hw2.blk.lt (fun hm => by have := hfo _ hm; omega))
    have hE3 : OwnE w3 w0.heap.size (.slice E W.e.length ce) (natE W.e) := x06 hw2.ext fun k hk => hon3.block k (x02 hw2.ext k hk) (fun hm => by have := hfo _ hm; have := x0G hw2.ext k hk; omega)
    rcases hcase with ⟨hbig, rfl, hsp3⟩ | ⟨v, out, hk, rfl, hv, hch, hsp3⟩
    · have hfin : FitTo w0 w gw gs ms gp r c1 A1 bl fl kvs W (.returned (errV 4)) w3 := by
        refine ⟨hon03, by have := hon3.size; omega, W.e, fl, 4, ?_, rfl, StAt.turned hst2 hon3 hgsf hmsf hsp3, ?_⟩
        · exact .full (by omega) (by rw [<- HNN.out]; exact hbig)
        · exact hw2.exts (G := foot gp r fl) (m := W.e.length) (ce' := ce) (E' := E) rfl (by rw [x5X (by rfl)]; exact K3) hE3 hon3 hodd
      have HFIN := kH hfin
      clear hfin hE3 K3 hodd hsp3 hon03 hon3 hst2 hw2 hb02 hb2 hb2'
      refine ⟨_, rfl, trivial, ?_⟩
      simp only [nH, pu, nB, nC, nD]
      refine tO 11 ?_
      refine x0A (v := .tuple #[.slice none 0 0, errV 4]) (w' := w3) (by kernel_rfl) ⟨trivial, ?_⟩
      simp only [nH, pu, nB, nC, nD]
      refine tV 12 (.slice none 0 0) rfl (fun w hw => by kernel_rfl) trivial ?_
      refine tV 13 (errV 4) rfl (fun w hw => by kernel_rfl) trivial ?_
      refine tO 14 ?_
      refine x0A (v := .slice none 0 0) (w' := w3) (by kernel_rfl) ⟨trivial, ?_⟩
      simp only [nH, pu, nB, nC, nD]
      refine tO 15 ?_
      refine x0A (v := errV 4) (w' := w3) (by kernel_rfl) ⟨trivial, ?_⟩
      simp only [nH, pu, nB, nC, nD]
      refine tE ?_
      simp only [errV] at HFIN ⊢
      go_wp2
      go_ret
      exact HFIN.out
    · obtain ⟨A4, c4, hvf, hA4⟩ := hv.form
      rw [x0T] at hvf
      subst hvf
      have hol : out.length <= 65536 := by
        have h1 := hch.few.1
        have h2 := xGE fl
        have h3 := x7E fl
        have h4 := hst2.sp.lim
        omega
      have hext3 : ExtR w3 w3.heap.size A4 (natE out) := OwnE.ext (by rw [x0T]; exact hv)
      have c32 : w3.cell? ⟨gw, 2, none⟩ = some (.slice E W.e.length ce) := K3.cell 2
      have HK3 := kH (kA K3 (kA hE3 hext3))
      have HALL := kH (kA hon03 (kA hon3 (kA hst2 (kA hw2 (kA hodd (kA hsp3 hch))))))
      clear hE3 K3 hodd hsp3 hon03 hon3 hst2 hw2 hb02 hb2 hb2' hext3 hch hv
      refine ⟨_, rfl, trivial, ?_⟩
      simp only [nH, pu, nB, nC, nD]
      refine tO 11 ?_
      refine x0A (v := .tuple #[.slice A4 out.length c4, .nilIface]) (w' := w3) (by kernel_rfl) ⟨trivial, ?_⟩
      simp only [nH, pu, nB, nC, nD]
      refine tV 12 (.slice A4 out.length c4) rfl (fun w hw => by kernel_rfl) trivial ?_
      refine tV 13 .nilIface rfl (fun w hw => by kernel_rfl) trivial ?_
      refine tO 14 ?_
      refine x0A (v := .slice A4 out.length c4) (w' := w3) (by kernel_rfl) ⟨trivial, ?_⟩
      simp only [nH, pu, nB, nC, nD]
      refine tO 15 ?_
      refine x0A (v := .nilIface) (w' := w3) (by kernel_rfl) ⟨trivial, ?_⟩
      simp only [nH, pu, nB, nC, nD]
      refine tE ?_
      go_wp2_with (first
        | (have _h := c32; refine x88 (.tmp 54) (.tmp 55) rfl rfl w0.heap.size (.slice E W.e.length ce) (natE W.e) rfl HK3.out.2.1 w3.heap.size A4 out.length c4 (natE out) rfl (x0T out).symm HK3.out.2.2 (by rw [x0T]; omega) (by have := HALL.out.2.2.2.1.ext; have := HALL.out.2.1.size; have := HALL.out.1.size; omega) ?_
           clear _h c32
           intro v5 w5 hown5 hg5 hor5
           have hTg : some gw ≠ (Value.slice E W.e.length ce).ownBlock := fun e => by
             obtain ⟨cs, hb⟩ := x0J HK3.out.2.1 e.symm
             exact HK3.out.1.ne_ hb (by decide) rfl
           have K5 := HK3.out.1.grown hg5 hTg
           obtain ⟨E5, c5, hv5, -⟩ := hown5.form
           obtain ⟨m5, hm5⟩ := kX ((natE W.e ++ natE out).length)
           rw [<- hm5] at hv5
           have HM5 := kH hm5
           subst hv5
           clear hm5)
        | (have _h := K5; refine x54 rfl 135 _ _ rfl gw 2 139 _ (.slice E5 m5 c5) rfl rfl K5 (by simp [workC]) (by kernel_rfl) rfl ?_; intro w6 K6 o6 s6; have HK5 := kH K5; clear _h K5))
      go_ret
      obtain ⟨hon03, hon3, hst2, hw2, hodd, hsp3, hch⟩ := HALL.out
      have hgE : ∀ k ∈ rowOf (.slice E W.e.length ce), w0.heap.size <= k := fun k hk => x0G hw2.ext k hk
      have hon5 : Only (rowOf (.slice E W.e.length ce)) w3 w5 := (kU _ _).grown hg5 (fun g hg => .inl (x00.2 hg))
      have hon26 : Only (foot gp r fl ++ (gw :: rowOf (.slice E W.e.length ce))) w2 w6 := ((hon3.mono (fun k hk => mem_append.2 (.inl hk))).trans (hon5.mono (fun k hk => mem_append.2 (.inr (kM _ hk)))) (kF _ _)).trans (o6.mono (fun k hk => by simp at hk; subst hk; simp)) (kF _ _)
      have hsplit : ∀ k ∈ foot gp r fl ++ (gw :: rowOf (.slice E W.e.length ce)), k ∈ foot gp r fl ∨ k = gw ∨ k ∈ rowOf (.slice E W.e.length ce) := fun k hk => by
        rcases mem_append.1 hk with h | h
        · exact .inl h
        · rcases kQ h with h | h
          · exact .inr (.inl h)
          · exact .inr (.inr h)
      have hz36 : w3.heap.size <= w6.heap.size := by have := hon5.size; have := o6.size; omega
      have hfar6 : ∀ k, k < w0.heap.size -> w6.heap[k]? = w3.heap[k]? := fun k hk => by
        have h0 := hon03.size
        have h5 := hon5.size
        rw [o6.block k (by omega) (by simp; omega), hon5.block k (by omega) (fun hm => by have := hgE k hm; omega)]
      have hst6 : StAt w6 gs ms gp r c1 A1 bl (setA fl out false) kvs := by
        refine StAt.turned hst2 hon26 (fun hm => ?_) (fun hm => ?_) ?_
        · rcases hsplit _ hm with h | h | h
          · exact hgsf h
          · omega
          · have := hgE _ h; omega
        · rcases hsplit _ hm with h | h | h
          · exact hmsf h
          · omega
          · have := hgE _ h; omega
        · refine ⟨hsp3.blk.of (hfar6 _ hgl), hsp3.cap, hsp3.lim, ?_⟩
          by_cases hf : fl = []
          · left
            have h0 := (hch.ok (x4R fl)).1.len
            exact eq_nil_of_length_eq_zero (by rw [h0, hf]; rfl)
          · rcases hsp3.row with e | ⟨e, cs, hb, hc⟩
            · exact .inl e
            · exact .inr ⟨e, cs, hb.of (hfar6 _ (hfo r (by unfold foot; rw [if_neg hf]; simp))), hc⟩
      refine ⟨?_, ?_, W.e ++ out, setA fl out false, 0, ?_, rfl, hst6, ?_⟩
      · refine hon03.trans (F' := gw :: rowOf (.slice E W.e.length ce)) ?_ (fun k hk => ?_)
        · exact (hon5.mono (fun k hk => kM _ hk)).trans (o6.mono (fun k hk => by simp at hk; subst hk; simp)) (kF _ _)
        · rcases kQ hk with h | h
          · subst h; exact .inr hgwB
          · exact .inr (hgE k h)
      · have := hon03.size
        have := hon3.size
        omega
      · exact .take (by omega) (by rw [<- HNN.out]; exact hk) (by rw [<- HNN.out]; exact hch)
      · have hext6 : OwnE w6 w0.heap.size (.slice E5 m5 c5) (natE (W.e ++ out)) := by
          rw [xNZ]
          exact x0N hown5 o6 (fun k hk => by simp at hk; subst hk; exact Odd.blk HK5.out (by decide))
        have hex : ∀ k ∈ rowOf (.slice E W.e.length ce), ∃ cs, Blk w2 k 198 cs := fun k hk => x0J hw2.ext (x00.1 hk)
        refine hw2.exts (G := foot gp r fl ++ (gw :: rowOf (.slice E W.e.length ce))) (m := m5) (by rw [HM5.out]; simp [natE]) K6 hext6 hon26 (fun k hk hl => ?_)
        rcases hsplit k hk with h | h | h
        · exact hodd k h hl
        · subst h
          refine ⟨Odd.blk hw2.blk (by decide), Odd.blk hw2.blk (by decide), fun mb hav e => ?_⟩
          rcases hw2.map with ⟨e', _⟩ | ⟨mb', e', hmB, hmm⟩
          · rw [e'] at hav; cases hav
          · rw [e'] at hav; injection hav with hav; injection hav with hav
            subst hav
            exact hmm.ne_blk hw2.blk e.symm
        · obtain ⟨cs, hb⟩ := hex k h
          refine ⟨Odd.blk hb (by decide), Odd.blk hb (by decide), fun mb hav e => ?_⟩
          rcases hw2.map with ⟨e', _⟩ | ⟨mb', e', hmB, hmm⟩
          · rw [e'] at hav; cases hav
          · rw [e'] at hav; injection hav with hav; injection hav with hav
            subst hav
            exact hmm.ne_blk hb e.symm
  -- Bq}
theorem xEA (h : StoreAt w Z gs ms gp r c A M kv) (hZ : ms ∈ Z) (ho : Only (ms :: foot gp r M.fl) w w') : Rel2 (ObjR w' Z) kv M.ob :=
 h.obs.imp fun a b hr => ⟨hr.1, by
  obtain ⟨go, mb, c1, ce, D, E, kv1, e, hmb, hat⟩ := hr.2
  refine ⟨go, mb, c1, ce, D, E, kv1, e, hmb, hat.only ho (fun k hk hl => ?_) (fun hm => ?_)⟩
  ·rcases kQ hk with rfl | hk
   ·exact ⟨Odd.map h.st.map, Odd.map h.st.map, Odd.map h.st.map⟩
   ·exact ⟨h.st.sp.foot_odd (by decide) (by decide) hk, h.st.sp.foot_odd (by decide) (by decide) hk, h.st.sp.foot_odd (by decide) (by decide) hk⟩
  ·rcases kQ hm with rfl | hm
   ·exact hmb hZ
   ·obtain ⟨t, cs, hb, _⟩ := h.st.sp.foot_typed hm
    exact hat.map.ne_blk hb rfl⟩
def EndTo (w0 : World) (Z : LN) (gw gs ms gp r c : Nat) (A : OA) (M : Mod) (kv : KV) (k : Key) (W : Wk) (e : Ending) (w' : World) : Prop :=
  Only (ms :: foot gp r M.fl) w0 w' /\ ∃ es fl' n, FitR M.fl W es fl' n /\ e = .returned (errV n) /\ ((n = 4 /\ StoreAt w' Z gs ms gp r c A M kv) ∨ (n = 0 /\ (∃ kv', StoreAt w' Z gs ms gp r c A (endM M k W es fl') kv') /\ ∃ T ct tv, w'.cell? ⟨gw, 4, none⟩ = some (.slice T W.told.length ct) /\ w'.ownsRow w0.heap.size 35 1 (.slice T W.told.length ct) W.told.length tv /\ Rel2 (RowR w' w0.heap.size []) tv W.told))
theorem FitR.err {es : List (Nat × Nat)} (h : FitR fl W es fl' n) : (n = 0) ∨ (n = 4 /\ es = W.e /\ fl' = fl) := by
 cases h with
 | give => exact .inl rfl
 | full => exact .inr ⟨rfl, rfl, rfl⟩
 | take => exact .inl rfl
theorem xOK (h : WkAt w w0.heap.size gw gs c ce ct D E T av kv tv W) (hb0 : Below w0.heap.size w0 w)
 (hst0 : StoreAt w0 Z gs ms gp r c1 A1 M kvs) (hZ : ms ∈ Z) (hZl : ∀ z ∈ Z, z < w0.heap.size) (hkn : kvs.length <= 1000000) (nm : LN) (hnm : nm.length <= 1000000) (hd : W.d.length <= 65536) (hpos : ∀ e ∈ W.e, 1 <= e.2 /\ e.1 <= 65536 /\ e.2 <= 65536) (hle : lens W.e <= 65536) (hel : W.e.length <= 65536) (hgv : needsB W.d < lens W.e -> OkA M.fl (shedR W.e.reverse (lens W.e - needsB W.d)).2 true /\ (∀ e ∈ (shedR W.e.reverse (lens W.e - needsB W.d)).2, 1 <= e.2 /\ e.1 <= 65536 /\ e.2 <= 65536) /\ (shedR W.e.reverse (lens W.e - needsB W.d)).2.length <= 65536) :
    Calls prog 66 #[.pointer (some ⟨gs, 0, none⟩), .string (strOf nm), .pointer (some ⟨gw, 0, none⟩)] w (EndTo w0 Z gw gs ms gp r c1 A1 M kvs (keyB nm) W) := by
  have HF := kH (xP0 h hb0 hst0.st hd hpos hle hel hgv)
  have H0 := kH (kA h (kA hb0 (kA hst0 hZ)))
  have HZL := kH hZl
  clear h hb0 hst0 hpos hgv
  go_enter func66, ntmps66
  go_wp2_with fail
  refine HF.out.mono ?_
  rintro e w3 ⟨hon3, hsz3, es, fl', n, hfit, rfl, hst3, hwk3⟩
  have hkeep : Only (ms :: foot gp r M.fl) w0 w3 := hon3.mono fun k hk => kM _ hk
  rcases hfit.err with rfl | ⟨rfl, rfl, rfl⟩
  -- {A
  · obtain ⟨c, ce, ct, D, E, T, av, kv, tv, h3⟩ := hwk3
    have q3 : w3.cell? ⟨gw, 3, none⟩ = some (.bool W.th) := h3.blk.cell 3
    have q0 : w3.cell? ⟨gs, 0, none⟩ = some (.map (some ms)) := hst3.c0
    have hgsl := hst3.blk.lt
    have hgwB := h3.gB
    have hmsl : ms < w0.heap.size := H0.out.2.2.1.st.map.lt
    have hz0 : w0.heap.size <= w3.heap.size := hon3.size
    have hold : Rel2 (ObjR w3 Z) kvs M.ob := xEA H0.out.2.2.1 H0.out.2.2.2 hkeep
    have hkb : (keyB nm).length <= maxLen := by simp [keyB, maxLen]; omega
    have hT4 : ∀ w', Only [ms] w3 w' -> w'.cell? ⟨gw, 4, none⟩ = some (.slice T W.told.length ct) /\ w'.ownsRow w0.heap.size 35 1 (.slice T W.told.length ct) W.told.length tv /\ Rel2 (RowR w' w0.heap.size []) tv W.told := fun w' ho => by
      have hod : ∀ (e : TypeId), ∀ k ∈ [ms], Odd w3 e k := fun e k hk => by simp at hk; subst hk; exact Odd.map hst3.map
      refine ⟨?_, x0N h3.tol ho (hod _), h3.els.imp fun a b hr => (hr.only ho fun k hk => .inr (hod _ k hk)).far (fun k hk => by cases hk)⟩
      exact (h3.blk.of (ho.block _ h3.blk.lt (by simp; have := hst3.map.ne_blk h3.blk; omega))).cell 4
    have hstT : ∀ w' kv', Only [ms] w3 w' -> SMap prog 9 w' ms kv' -> StAt w' gs ms gp r c1 A1 M.bl fl' kv' := fun w' kv' ho hm => by
      refine ⟨hst3.blk.of (ho.block _ hst3.blk.lt (by simp; have := hst3.map.ne_blk hst3.blk; omega)), hst3.len, hm, hst3.sp.of (ho.block _ hst3.sp.blk.lt (by simp; have := hst3.map.ne_blk hst3.sp.blk; omega)) (fun t cs hb => ho.block _ hb.lt (by simp; have := hst3.map.ne_blk hb; omega)), hst3.ne⟩
    have hobT : ∀ w', Only [ms] w3 w' -> Rel2 (ObjR w' Z) kvs M.ob := fun w' ho => hold.imp fun a b hr => ⟨hr.1, by
      obtain ⟨go, mb, c1, ce, D, E, kv1, e, hmb, hat⟩ := hr.2
      refine ⟨go, mb, c1, ce, D, E, kv1, e, hmb, hat.only ho (fun k hk hl => ?_) (fun hm => ?_)⟩
      · simp at hk; subst hk; exact ⟨Odd.map hst3.map, Odd.map hst3.map, Odd.map hst3.map⟩
      · simp at hm; subst hm; exact hmb H0.out.2.2.2⟩
    cases hth : W.th
    · obtain ⟨w5, hrun, hm5, hg5, -⟩ := x4L (P := prog) (ty := 0) underlying9 underlying118 hst3.map (keyB nm) hkb
      rw [x17] at hrun
      have ho5 : Only [ms] w3 w5 := (kU _ _).grown hg5 (fun g hg => .inl (by injection hg with hg; simp [hg]))
      have hfin : EndTo w0 Z gw gs ms gp r c1 A1 M kvs (keyB nm) W (.returned .nilIface) w5 := by
        refine ⟨hkeep.trans ho5 (fun k hk => by simp at hk; subst hk; simp), es, fl', 0, hfit, rfl, .inr ⟨rfl, ⟨_, hstT w5 _ ho5 hm5, ?_⟩, T, ct, tv, hT4 w5 ho5⟩⟩
        have : (endM M (keyB nm) W es fl').ob = gdel (keyB nm) M.ob := by simp [endM, hth]
        rw [this]
        exact (hobT w5 ho5).del ObjR.key (keyB nm)
      have HFIN := kH hfin
      rw [hth] at q3
      clear hfin hobT hstT hT4 hold hst3 h3 ho5 hm5 hg5 hfit hkeep hon3 hth
      simp only [errV]
      go_wp2
      go_ret
      exact HFIN.out
    · obtain ⟨mb, rfl, hmB, hmm⟩ : ∃ mb, av = .map (some mb) /\ w0.heap.size <= mb /\ SMap prog 9 w3 mb kv := by
        rcases h3.map with ⟨_, _, e⟩ | hh
        · rw [show ({W with e := es} : Wk).th = W.th from rfl, hth] at e; cases e
        · exact hh
      have hbA : Below w3.heap.size w3 (w3.alloc (.cells (objC D W.d.length c (.map (some mb)) E es.length ce) 137)) := (kB _ _).alloc (kR _) _
      have KA := kW w3 137 (objC D W.d.length c (.map (some mb)) E es.length ce)
      obtain ⟨wA, hwA⟩ := kX (w3.alloc (.cells (objC D W.d.length c (.map (some mb)) E es.length ce) 137))
      rw [<- hwA] at hbA KA
      have hmA : SMap prog 9 wA ms kvs := hst3.map.of (hbA.block _ hst3.map.lt)
      obtain ⟨w5, hrun, hm5, hg5, -⟩ := x2A (P := prog) underlying9 underlying118 hmA (keyB nm) hkb (by simp only [maxLen]; omega) (.pointer (some ⟨w3.heap.size, 0, none⟩))
      rw [x17, hwA] at hrun
      have hoA : Only [ms] wA w5 := (kU _ _).grown hg5 (fun g hg => .inl (by injection hg with hg; simp [hg]))
      have ho5 : Only [ms] w3 w5 := (kO hbA _).trans hoA (kF _ _)
      have hodA : ∀ (e : TypeId), ∀ k ∈ [ms], Odd wA e k := fun e k hk => by simp at hk; subst hk; exact Odd.map hmA
      have hob : ObR w5 Z (.pointer (some ⟨w3.heap.size, 0, none⟩)) ⟨W.d, W.a, es⟩ := by
        have h3A := h3.below hbA
        refine ⟨w3.heap.size, mb, c, ce, D, E, kv, rfl, fun hm => by have := HZL.out mb hm; omega, ⟨KA.of (hoA.block _ KA.lt (by simp; omega)), x0B (x0N h3A.dat hoA (hodA _)) (kY _), h3.ok, ?_, h3A.att.imp fun a b hr => ⟨hr.1, (hr.2.only hoA fun k hk => .inr (hodA _ k hk)).far (fun k hk => by cases hk)⟩, x0B (x0N h3A.ext hoA (hodA _)) (kY _)⟩⟩
        have hmmA := hmm.of (hbA.block _ hmm.lt)
        exact hmmA.of (hoA.block _ hmmA.lt (by simp; omega))
      have hfin : EndTo w0 Z gw gs ms gp r c1 A1 M kvs (keyB nm) W (.returned .nilIface) w5 := by
        refine ⟨hkeep.trans ho5 (fun k hk => by simp at hk; subst hk; simp), es, fl', 0, hfit, rfl, .inr ⟨rfl, ⟨_, hstT w5 _ ho5 hm5, ?_⟩, T, ct, tv, hT4 w5 ho5⟩⟩
        have : (endM M (keyB nm) W es fl').ob = gput (keyB nm) ⟨W.d, W.a, es⟩ M.ob := by simp [endM, hth]
        rw [this]
        exact (hobT w5 ho5).put ObjR.key ⟨rfl, hob⟩
      have HFIN := kH hfin
      have hrg : w3.rangeAt gw 0 [.slice D W.d.length c, .map (some mb), .slice E es.length ce] := fun j v hj => by
        match j, hj with
        | 0, hj => simp at hj; subst hj; exact h3.blk.cell 0
        | 1, hj => simp at hj; subst hj; exact h3.blk.cell 1
        | 2, hj => simp at hj; subst hj; exact h3.blk.cell 2
      rw [hth] at q3
      simp only [objC] at hrun
      clear hfin hobT hstT hT4 hold hst3 h3 ho5 hm5 hg5 hfit hkeep hon3 hth hob hodA hoA hmA hbA KA hmm hwA
      simp only [errV]
      go_wp2_with (have _h := hrg; refine wpList_load_mid rfl 137 (.tmp 20) rfl gw 0 rfl _ _ hrg underlying137 (by rfl) (by kernel_rfl) ?_; clear _h hrg)
      go_ret
      exact HFIN.out
  -- A}
  · have hfin : EndTo w0 Z gw gs ms gp r c1 A1 M kvs (keyB nm) W (.returned (errV 4)) w3 := ⟨hkeep, W.e, M.fl, 4, hfit, rfl, .inl ⟨rfl, hst3, xEA H0.out.2.2.1 H0.out.2.2.2 hkeep⟩⟩
    have HFIN := kH hfin
    clear hfin hkeep hfit hst3 hwk3 hon3
    simp only [errV] at HFIN ⊢
    go_wp2
    go_ret
    exact HFIN.out
def Dis (p q : Nat × Nat) : Prop := p.1 + p.2 <= q.1 ∨ q.1 + q.2 <= p.1
theorem Dis.symm {p q : Nat × Nat} (h : Dis p q) : Dis q p := Or.symm h
def Sub (p q : Nat × Nat) : Prop := q.1 <= p.1 /\ p.1 + p.2 <= q.1 + q.2
theorem Sub.refl (p : Nat × Nat) : Sub p p := ⟨kR _, kR _⟩
theorem Sub.dis {p q e : Nat × Nat} (h : Sub p e) (hd : Dis e q) : Dis p q := by
 unfold Dis Sub at *
 omega
theorem x82 {l m : List (Nat × Nat)} (h : l.Perm m) : l.Pairwise Dis ↔ m.Pairwise Dis := h.pairwise_iff (fun {a b} hd => Dis.symm hd)
theorem x59 : ∀ (L : List (Nat × Nat)) (l : List Bool) (b : Bool), (∀ e ∈ L, 1 <= e.2) -> (OkA l L b ↔ (∀ e ∈ L, AllR l e.1 e.2 (!b)) /\ L.Pairwise Dis)
 | [], l, b, _ => by simp [OkA]
 | e :: L, l, b, hp => by
  have ih := x59 L (setR l e.1 e.2 b) b (fun q hq => hp q (by simp [hq]))
  have hpe := hp e (by simp)
  constructor
  ·rintro ⟨h1, h2⟩
   obtain ⟨h3, h4⟩ := ih.1 h2
   have hd : ∀ q ∈ L, Dis e q /\ AllR l q.1 q.2 (!b) := fun q hq => by
    have hq3 := h3 q hq
    have hpq := hp q (by simp [hq])
    have hlen := hq3.1
    rw [x0V h1.1] at hlen
    have hdis : Dis e q := by
     apply Classical.byContradiction
     intro hn
     unfold Dis at hn
     have hj := hq3.2 (max e.1 q.1) (by omega) (by omega)
     rw [x14 h1.1, if_pos (by omega)] at hj
     cases b <;> simp at hj
    refine ⟨hdis, hlen, fun j hj1 hj2 => ?_⟩
    have := hq3.2 j hj1 hj2
    rw [x14 h1.1, if_neg (by unfold Dis at hdis; omega)] at this
    exact this
   refine ⟨fun q hq => ?_, pairwise_cons.2 ⟨fun q hq => (hd q hq).1, h4⟩⟩
   rcases kQ hq with rfl | hq
   ·exact h1
   ·exact (hd q hq).2
  ·rintro ⟨h1, h2⟩
   obtain ⟨h3, h4⟩ := pairwise_cons.1 h2
   have he := h1 e (by simp)
   refine ⟨he, ih.2 ⟨fun q hq => ?_, h4⟩⟩
   have hq1 := h1 q (by simp [hq])
   have hdis := h3 q hq
   refine ⟨by rw [x0V he.1]; exact hq1.1, fun j hj1 hj2 => ?_⟩
   rw [x14 he.1, if_neg (by unfold Dis at hdis; omega)]
   exact hq1.2 j hj1 hj2
theorem Cov.app {a b : List (Nat × Nat)} : Cov (a ++ b) j ↔ Cov a j ∨ Cov b j := by
 unfold Cov
 constructor
 ·rintro ⟨e, he, h⟩
  rcases mem_append.1 he with he | he
  ·exact .inl ⟨e, he, h⟩
  ·exact .inr ⟨e, he, h⟩
 ·rintro (⟨e, he, h⟩ | ⟨e, he, h⟩)
  ·exact ⟨e, mem_append.2 (.inl he), h⟩
  ·exact ⟨e, mem_append.2 (.inr he), h⟩
theorem Cov.perm {a b : List (Nat × Nat)} (h : a.Perm b) : Cov a j ↔ Cov b j := by
 unfold Cov
 exact ⟨fun ⟨e, he, hh⟩ => ⟨e, h.mem_iff.1 he, hh⟩, fun ⟨e, he, hh⟩ => ⟨e, h.mem_iff.2 he, hh⟩⟩
theorem Cov.nil : ¬ Cov [] j := fun ⟨e, he, _⟩ => by cases he
theorem x90 (a b : List (Nat × Nat)) : lens (a ++ b) = lens a + lens b := by simp [lens]
theorem x67 {a b : List (Nat × Nat)} (h : a.Perm b) : lens a = lens b := by
 unfold lens
 exact (h.map _).sum_nat
theorem xIN {l : List (Nat × Nat)} (hp : ∀ e ∈ l, 1 <= e.2) (h : lens l = 0) : l = [] := by
 cases l with
 | nil => rfl
 | cons e l =>
  have := hp e (by simp)
  simp [lens] at h
  omega
theorem x9Y : ∀ (r : List (Nat × Nat)) (n : Nat), (∀ e ∈ r, 1 <= e.2) -> n <= lens r →
  (∀ j, Cov r j ↔ Cov (shedR r n).1 j ∨ Cov (shedR r n).2 j) /\ (∀ q ∈ (shedR r n).1 ++ (shedR r n).2, 1 <= q.2 /\ ∃ e ∈ r, Sub q e) /\ lens (shedR r n).1 + n = lens r /\ (r.Pairwise Dis -> ((shedR r n).1 ++ (shedR r n).2).Pairwise Dis) /\ (shedR r n).1.length <= r.length /\ (shedR r n).2.length <= r.length
 | r, 0, hp, _ => by
  rw [x5N]
  refine ⟨fun j => ⟨fun h => .inl h, fun h => h.resolve_right Cov.nil⟩, fun q hq => ?_, rfl, fun h => by simpa using h, kR _, kY _⟩
  have hq' : q ∈ r := by simpa using hq
  exact ⟨hp q hq', q, hq', Sub.refl q⟩
 | [], n + 1, _, h => by simp [lens] at h
 | (x, y) :: r, n + 1, hp, h => by
  have hpr : ∀ e ∈ r, 1 <= e.2 := fun e he => hp e (by simp [he])
  have hy := hp (x, y) (by simp)
  by_cases hlt : n + 1 < y
  ·rw [x9X (by omega) hlt]
   refine ⟨fun j => ?_, fun q hq => ?_, ?_, fun hpw => ?_, by simp, by simp⟩
   ·rw [Cov.cons, Cov.cons]
    simp only [Cov, mem_singleton, exists_eq_left]
    constructor
    ·rintro (hh | hh)
     ·by_cases hj : j < x + (y - (n + 1))
      ·exact .inl (.inl ⟨hh.1, hj⟩)
      ·exact .inr ⟨by omega, by omega⟩
     ·exact .inl (.inr hh)
    ·rintro ((hh | hh) | hh)
     ·exact .inl ⟨hh.1, by have := hh.2; omega⟩
     ·exact .inr hh
     ·exact .inl ⟨by have := hh.1; omega, by have := hh.2; omega⟩
   ·simp at hq
    rcases hq with rfl | hq | rfl
    ·exact ⟨by simp; omega, (x, y), by simp, by simp only [Sub]; omega⟩
    ·exact ⟨hpr q hq, q, by simp [hq], Sub.refl q⟩
    ·exact ⟨by simp, (x, y), by simp, by simp only [Sub]; omega⟩
   ·simp [lens]; omega
   ·obtain ⟨h1, h2⟩ := pairwise_cons.1 hpw
    rw [cons_append, pairwise_cons]
    refine ⟨fun q hq => ?_, ?_⟩
    ·rcases mem_append.1 hq with hq | hq
     ·exact Sub.dis (e := (x, y)) (by simp only [Sub]; omega) (h1 q hq)
     ·simp at hq; subst hq; simp only [Dis]; omega
    ·rw [pairwise_append]
     refine ⟨h2, by simp, fun a ha b hb => ?_⟩
     simp at hb
     subst hb
     exact (Sub.dis (e := (x, y)) (by simp only [Sub]; omega) (h1 a ha)).symm
  ·rw [x4Y (by omega) (by omega)]
   obtain ⟨i1, i2, i3, i4, i5, i6⟩ := x9Y r (n + 1 - y) hpr (by simp [lens] at h ⊢; omega)
   have hmv : ∀ (l g : List (Nat × Nat)), (l ++ (x, y) :: g).Perm ((x, y) :: (l ++ g)) := fun l g => List.perm_middle
   refine ⟨fun j => ?_, fun q hq => ?_, ?_, fun hpw => ?_, by simp; omega, by simp; omega⟩
   ·rw [Cov.cons, Cov.cons, i1 j]
    constructor
    ·rintro (hh | hh | hh)
     ·exact .inr (.inl hh)
     ·exact .inl hh
     ·exact .inr (.inr hh)
    ·rintro (hh | hh | hh)
     ·exact .inr (.inl hh)
     ·exact .inl hh
     ·exact .inr (.inr hh)
   ·rcases kQ ((hmv _ _).mem_iff.1 hq) with rfl | hq
    ·exact ⟨hy, (x, y), by simp, Sub.refl _⟩
    ·obtain ⟨h1, e, he, hs⟩ := i2 q hq
     exact ⟨h1, e, by simp [he], hs⟩
   ·simp [lens] at i3 ⊢; omega
   ·obtain ⟨h1, h2⟩ := pairwise_cons.1 hpw
    rw [x82 (hmv _ _), pairwise_cons]
    refine ⟨fun q hq => ?_, i4 h2⟩
    obtain ⟨_, e, he, hs⟩ := i2 q hq
    exact (Sub.dis hs (h1 e he).symm).symm
structure Good (fl : List Bool) (L : List (Nat × Nat)) : Prop where
 pos : ∀ e ∈ L, 1 <= e.2
 dis : L.Pairwise Dis
 inn : ∀ e ∈ L, e.1 + e.2 <= fl.length
 cov : ∀ j, j < fl.length -> (Cov L j ↔ fl[j]? = some false)
theorem Good.perm {L L' : List (Nat × Nat)} (h : Good fl L) (hp : L.Perm L') : Good fl L' :=
  ⟨fun e he => h.pos e (hp.mem_iff.2 he), (x82 hp).1 h.dis, fun e he => h.inn e (hp.mem_iff.2 he), fun j hj => (Cov.perm hp).symm.trans (h.cov j hj)⟩
theorem Good.shed {e R : List (Nat × Nat)} (h : Good fl (e ++ R)) (hn : n <= lens e) : OkA fl (shedR e.reverse n).2 true /\ Good (setA fl (shedR e.reverse n).2 true) ((shedR e.reverse n).1.reverse ++ R) /\ lens (shedR e.reverse n).1.reverse + n = lens e /\ (∀ q ∈ (shedR e.reverse n).2, 1 <= q.2 /\ q.1 + q.2 <= fl.length) /\ (shedR e.reverse n).2.length <= e.length := by
 have hre : e.reverse.Perm e := e.reverse_perm
 have hpe : ∀ q ∈ e.reverse, 1 <= q.2 := fun q hq => h.pos q (mem_append.2 (.inl (mem_reverse.1 hq)))
 obtain ⟨i1, i2, i3, i4, i5, i6⟩ := x9Y e.reverse n hpe (by rw [x67 hre]; exact hn)
 obtain ⟨d1, d2, d3⟩ := pairwise_append.1 h.dis
 have i4' := i4 ((x82 hre).2 d1)
 generalize (shedR e.reverse n).1 = l at *
 generalize (shedR e.reverse n).2 = g at *
 have hsub : ∀ q ∈ l ++ g, q.1 + q.2 <= fl.length := fun q hq => by
  obtain ⟨_, f, hf, hs⟩ := i2 q hq
  have := h.inn f (mem_append.2 (.inl (mem_reverse.1 hf)))
  unfold Sub at hs
  omega
 have hallg : ∀ q ∈ g, AllR fl q.1 q.2 false := fun q hq => ⟨hsub q (mem_append.2 (.inr hq)), fun j h1 h2 => (h.cov j (by have := hsub q (mem_append.2 (.inr hq)); omega)).1 (Cov.app.2 (.inl ((Cov.perm hre).1 ((i1 j).2 (.inr ⟨q, hq, h1, h2⟩)))))⟩
 obtain ⟨p1, p2, p3⟩ := pairwise_append.1 i4'
 have hok : OkA fl g true := (x59 g fl true (fun q hq => (i2 q (mem_append.2 (.inr hq))).1)).2 ⟨hallg, p2⟩
 have hdg : ∀ a ∈ l ++ g, ∀ b ∈ R, Dis a b := fun a ha b hb => by
  obtain ⟨_, f, hf, hs⟩ := i2 a ha
  exact Sub.dis hs (d3 f (mem_reverse.1 hf) b hb)
 refine ⟨hok, ⟨fun q hq => ?_, ?_, fun q hq => ?_, fun j hj => ?_⟩, ?_, fun q hq => ⟨(i2 q (mem_append.2 (.inr hq))).1, hsub q (mem_append.2 (.inr hq))⟩, by simpa using i6⟩
 ·rcases mem_append.1 hq with hq | hq
  ·exact (i2 q (mem_append.2 (.inl (mem_reverse.1 hq)))).1
  ·exact h.pos q (mem_append.2 (.inr hq))
 ·rw [pairwise_append]
  exact ⟨(x82 l.reverse_perm).2 p1, d2, fun a ha b hb => hdg a (mem_append.2 (.inl (mem_reverse.1 ha))) b hb⟩
 ·rw [hok.len]
  rcases mem_append.1 hq with hq | hq
  ·exact hsub q (mem_append.2 (.inl (mem_reverse.1 hq)))
  ·exact h.inn q (mem_append.2 (.inr hq))
 ·rw [hok.len] at hj
  have hat := hok.at_ j
  have hc := h.cov j hj
  by_cases hg : Cov g j
  ·rw [(hat.1 hg).1]
   constructor
   ·intro hcv
    exfalso
    obtain ⟨q, hq, q1, q2⟩ := hg
    rcases Cov.app.1 hcv with ⟨a, ha, a1, a2⟩ | ⟨a, ha, a1, a2⟩
    ·have := p3 a (mem_reverse.1 ha) q hq; unfold Dis at this; omega
    ·have := hdg q (mem_append.2 (.inr hq)) a ha; unfold Dis at this; omega
   ·intro hf; simp at hf
  ·rw [hat.2 hg, <- hc, Cov.app, Cov.app, Cov.perm l.reverse_perm, <- Cov.perm hre, i1 j]
   constructor
   ·rintro (hh | hh)
    ·exact .inl (.inl hh)
    ·exact .inr hh
   ·rintro ((hh | hh) | hh)
    ·exact .inl hh
    ·exact absurd hh hg
    ·exact .inr hh
 ·rw [x67 l.reverse_perm, i3, x67 hre]
theorem Chosen.pos_ {L out : List (Nat × Nat)} (h : Chosen L n out) (hL : ∀ e ∈ L, 1 <= e.2) : ∀ e ∈ out, 1 <= e.2 := by
 induction h with
 | none => simp
 | fit hn _ => simp; omega
 | long ht _ _ ih =>
  intro e he
  rcases kQ he with rfl | he
  ·exact hL _ ht.1
  ·exact ih (fun e he => hL e (mem_of_mem_erase he)) e he
theorem Good.take {e R out : List (Nat × Nat)} (h : Good fl (e ++ R)) (hc : Chosen (hol 0 fl) n out) : Good (setA fl out false) ((e ++ out) ++ R) /\ lens out = n := by
 obtain ⟨hok, hl⟩ := hc.ok (x4R fl)
 have hpos : ∀ q ∈ out, 1 <= q.2 := hc.pos_ (fun q hq => (x85 fl 0 q.1 q.2 hq).2.1)
 obtain ⟨hall, hdis⟩ := (x59 out fl false hpos).1 hok
 have hfar : ∀ a ∈ out, ∀ b ∈ e ++ R, Dis a b := fun a ha b hb => by
  apply Classical.byContradiction
  intro hn
  unfold Dis at hn
  have ha1 := hall a ha
  have hb1 := h.pos b hb
  have ha2 := hpos a ha
  have h1 := ha1.2 (max a.1 b.1) (by omega) (by omega)
  have hb2 := h.inn b hb
  have h2 := (h.cov (max a.1 b.1) (by omega)).1 ⟨b, hb, by omega, by omega⟩
  rw [h1] at h2
  simp at h2
 have hperm : ((e ++ out) ++ R).Perm (out ++ (e ++ R)) := by
  rw [<- append_assoc]
  exact (List.perm_append_comm).append_right R
 refine ⟨Good.perm (L := out ++ (e ++ R)) ⟨fun q hq => ?_, ?_, fun q hq => ?_, fun j hj => ?_⟩ hperm.symm, hl⟩
 ·rcases mem_append.1 hq with hq | hq
  ·exact hpos q hq
  ·exact h.pos q hq
 ·rw [pairwise_append]
  exact ⟨hdis, h.dis, hfar⟩
 ·rw [hok.len]
  rcases mem_append.1 hq with hq | hq
  ·exact (hall q hq).1
  ·exact h.inn q hq
 ·rw [hok.len] at hj
  have hat := hok.at_ j
  rw [Cov.app]
  by_cases ho : Cov out j
  ·rw [(hat.1 ho).1]
   exact ⟨fun _ => rfl, fun _ => .inl ho⟩
  ·rw [hat.2 ho, <- h.cov j hj]
   exact ⟨fun hh => hh.resolve_left ho, fun hh => .inr hh⟩
theorem x9G {L : List (Nat × Nat)} (h : Good fl L) : cnt fl + lens L = fl.length := by
 have hok : OkA (List.replicate fl.length true) L false := (x59 L _ false h.pos).2 ⟨fun e he => ⟨by simpa using h.inn e he, fun j h1 h2 => by have := h.inn e he; rw [List.getElem?_replicate, if_pos (by omega)]; rfl⟩, h.dis⟩
 have hset : setA (List.replicate fl.length true) L false = fl := by
  apply ext_getElem?
  intro j
  have hat := hok.at_ j
  by_cases hj : j < fl.length
  ·by_cases hc : Cov L j
   ·rw [(hat.1 hc).1, (h.cov j hj).1 hc]
   ·rw [hat.2 hc]
    have : fl[j]? ≠ some false := fun e => hc ((h.cov j hj).2 e)
    rw [List.getElem?_eq_getElem hj] at this ⊢
    simp [hj] at this ⊢
    exact this
  ·rw [List.getElem?_eq_none (by rw [hok.len]; simpa using hj), List.getElem?_eq_none (by omega)]
 have hcn := hok.cnt
 rw [hset] at hcn
 have hr : cnt (List.replicate fl.length true) = fl.length := by simp [cnt, countP_replicate]
 rw [hr] at hcn
 simp at hcn
 omega
def exts (ob : List (Key × Ob)) : List (Nat × Nat) := ob.flatMap fun p => p.2.e
theorem xBN {a b : List (Key × Ob)} (h : a.Perm b) : (exts a).Perm (exts b) := h.flatMap_right _
theorem xHP (h : Keys1 M.ob) (k : Key) : (exts M.ob).Perm ((startW M k).e ++ exts (gdel k M.ob)) := by
 unfold startW
 cases hg : gget M.ob k with
 | none => rw [xBC hg]; exact List.Perm.refl _
 | some o => exact xBN (xB9 h hg)
theorem xN2 {ob : List (Key × Ob)} (k : Key) (o : Ob) : (exts (gput k o ob)).Perm (o.e ++ exts (gdel k ob)) := xBN (x3I k o ob)
structure OkO (n : Nat) (o : Ob) : Prop where
 d : o.d.length <= 65536
 e : lens o.e = needsB o.d
 a : o.a.length <= n
 v : ∀ q ∈ o.a, q.2.length <= 65536
structure Inv (n : Nat) (M : Mod) : Prop where
 keys : Keys1 M.ob
 few : M.ob.length <= n
 len : M.fl.length <= 65536
 bl : M.bl.length = 8
 good : Good M.fl (exts M.ob)
 obs : ∀ p ∈ M.ob, OkO n p.2
 nms : ∀ p ∈ M.ob, ∃ nm, p.1 = keyB nm /\ isNameB nm = true
structure WB (n : Nat) (W : Wk) : Prop where
 d : W.d.length <= 65536
 a : W.a.length <= n
 t : W.told.length <= n
 v : ∀ q ∈ W.a, q.2.length <= 65536
 z : W.th = false -> W.d = []
theorem xIA {d nb : LN} {at_ : Nat} (h : d.length <= 65536) (h' : at_ + nb.length <= 65536) : (writeB d at_ nb).length <= 65536 := by
 unfold writeB
 split
 ·exact h
 ·simp [x8F]
  omega
theorem xIU (d : LN) (at_ n : Nat) : (zeroB d at_ n).length = d.length := by
 unfold zeroB
 simp
 omega
theorem x2S {V : Type} (k : Key) (l : List (Key × V)) : ∀ q ∈ gdel k l, q ∈ l := fun q hq => (x70 k l q hq).2
theorem x2R {V : Type} {k : Key} {v : V} {l : List (Key × V)} {q : Key × V} (h : q ∈ gput k v l) : q = (k, v) ∨ q ∈ l := by
 rcases kQ ((x3I k v l).mem_iff.1 h) with h | h
 ·exact .inl h
 ·exact .inr (x2S k l q h)
theorem xGK (h : WB n W) : WB (n + 1) (stepW bl W x).1 /\ (stepW bl W x).1.e = W.e := by
 have h0 : WB (n + 1) W := ⟨h.d, Nat.le_succ_of_le h.a, Nat.le_succ_of_le h.t, h.v, h.z⟩
 unfold stepW
 split
 ·exact ⟨h0, rfl⟩
 split
 ·unfold becomeW
  split
  ·exact ⟨h0, rfl⟩
  ·exact ⟨⟨by simp, by simp, h0.t, by simp, fun _ => rfl⟩, rfl⟩
 split
 ·unfold becomeW
  split
  ·exact ⟨h0, rfl⟩
  ·exact ⟨⟨by simp, by simp, h0.t, by simp, fun _ => rfl⟩, rfl⟩
 split
 ·split
  ·rename_i hth
   have hz : ∀ (W' : Wk), W'.th = W.th -> (W'.th = false -> W'.d = []) := fun W' e e' => by rw [e, hth] at e'; cases e'
   unfold insideW
   split
   ·split
    ·rename_i hn
     simp at hn
     exact ⟨⟨h.d, by have := x5U (keyB x.nm) x.dt W.a; have := h.a; simp only; omega, h0.t, fun q hq => by
      rcases x2R hq with rfl | hq
      ·simp; omega
      ·exact h.v q hq, hz _ rfl⟩, rfl⟩
    ·exact ⟨h0, rfl⟩
   split
   ·exact ⟨⟨h.d, by have := x9B (keyB x.nm) W.a; have := h.a; simp only; omega, h0.t, fun q hq => h.v q (x2S _ _ q hq), hz _ rfl⟩, rfl⟩
   split
   ·split
    ·exact ⟨⟨h.d, h0.a, by have := h.t; simp; omega, h.v, hz _ rfl⟩, rfl⟩
    ·exact ⟨h0, rfl⟩
   split
   ·exact ⟨h0, rfl⟩
   rename_i hr
   split
   ·rename_i h8
    rw [h8] at hr
    simp [reachesB] at hr
    exact ⟨⟨xIA h.d (by omega), h0.a, h0.t, h.v, hz _ rfl⟩, rfl⟩
   split
   ·exact ⟨⟨by rw [xIU]; exact h.d, h0.a, h0.t, h.v, hz _ rfl⟩, rfl⟩
   split
   ·rename_i h10
    rw [h10] at hr
    simp [reachesB] at hr
    exact ⟨⟨by rw [x8F]; omega, h0.a, h0.t, h.v, hz _ rfl⟩, rfl⟩
   ·exact ⟨⟨h.d, h0.a, by have := h.t; simp; omega, h.v, hz _ rfl⟩, rfl⟩
  ·exact ⟨h0, rfl⟩
 ·exact ⟨h0, rfl⟩
theorem xKX : ∀ {xs : List StepV} {n : Nat} {W : Wk}, WB n W -> WB (n + xs.length) (runW bl W xs).1 /\ (runW bl W xs).1.e = W.e
 | [], n, W, h => ⟨h, rfl⟩
 | x :: xs, n, W, h => by
  obtain ⟨h1, h2⟩ := xGK (bl := bl) (x := x) h
  rw [runW]
  split
  ·obtain ⟨h3, h4⟩ := xKX (xs := xs) h1
   exact ⟨⟨h3.d, by have := h3.a; simp; omega, by have := h3.t; simp; omega, h3.v, h3.z⟩, h4.trans h2⟩
  ·exact ⟨⟨h1.d, by have := h1.a; simp; omega, by have := h1.t; simp; omega, h1.v, h1.z⟩, h2⟩
theorem xEL (h : Inv n M) (k : Key) : WB n (startW M k) := by
 unfold startW
 cases hg : gget M.ob k with
 | none => exact ⟨by simp, by simp, by simp, by simp, fun _ => rfl⟩
 | some o =>
  have := h.obs _ (x1S hg)
  exact ⟨this.d, this.a, by simp, this.v, fun e => by cases e⟩
theorem x7K (h : Inv n M) (k : Key) : (∀ e ∈ (startW M k).e, 1 <= e.2 /\ e.1 <= 65536 /\ e.2 <= 65536) /\ lens (startW M k).e <= 65536 /\ (startW M k).e.length <= 65536 /\ Good M.fl ((startW M k).e ++ exts (gdel k M.ob)) := by
 have hg := h.good.perm (xHP h.keys k)
 have hc := x9G hg
 have hl := h.len
 rw [x90] at hc
 have hpos : ∀ e ∈ (startW M k).e, 1 <= e.2 := fun e he => hg.pos e (mem_append.2 (.inl he))
 have := x2E hpos
 refine ⟨fun e he => ?_, by omega, by omega, hg⟩
 have := hg.inn e (mem_append.2 (.inl he))
 have := hpos e he
 omega
theorem xOQ (h : Inv n M) (k : Key) (hm : m <= lens (startW M k).e) : OkA M.fl (shedR (startW M k).e.reverse m).2 true /\ (∀ e ∈ (shedR (startW M k).e.reverse m).2, 1 <= e.2 /\ e.1 <= 65536 /\ e.2 <= 65536) /\ (shedR (startW M k).e.reverse m).2.length <= 65536 := by
 obtain ⟨h1, h2, h3, h4⟩ := x7K h k
 obtain ⟨g1, g2, g3, g4, g5⟩ := h4.shed hm
 refine ⟨g1, fun e he => ?_, by omega⟩
 have := g4 e he
 have := h.len
 omega
theorem xMV {R es : List (Nat × Nat)} (h : Good fl (W.e ++ R)) (hf : FitR fl W es fl' 0) : Good fl' (es ++ R) /\ lens es = needsB W.d /\ fl'.length = fl.length := by
 cases hf with
 | give hlt =>
  obtain ⟨g1, g2, g3, g4, g5⟩ := h.shed (n := lens W.e - needsB W.d) (by omega)
  exact ⟨g2, by omega, g1.len⟩
 | take h1 h2 hc =>
  obtain ⟨g1, g2⟩ := h.take hc
  exact ⟨g1, by rw [x90, g2]; omega, (hc.ok (x4R fl)).1.len⟩
theorem Inv.mono (h : Inv n M) (hm : n <= m) : Inv m M := ⟨h.keys, kT h.few hm, h.len, h.bl, h.good, fun p hp => ⟨(h.obs p hp).d, (h.obs p hp).e, kT (h.obs p hp).a hm, (h.obs p hp).v⟩, h.nms⟩
theorem x7F {M' : Mod} {nm : LN} {xs : List StepV} {told : List LN} (h : Inv n M) (hd : DoR M nm xs M' k told) : Inv (n + 16) M' /\ M'.fl.length = M.fl.length /\ M'.bl = M.bl := by
 cases hd with
 | range => exact ⟨h.mono (by omega), rfl, rfl⟩
 | step => exact ⟨h.mono (by omega), rfl, rfl⟩
 | full => exact ⟨h.mono (by omega), rfl, rfl⟩
 | @done es fl hn h1 h16 hr hf =>
  obtain ⟨hw, he⟩ := xKX (bl := M.bl) (xs := xs) (xEL h (keyB nm))
  generalize (runW M.bl (startW M (keyB nm)) xs).1 = W at *
  obtain ⟨-, -, -, hg⟩ := x7K h (keyB nm)
  rw [<- he] at hg
  obtain ⟨g1, g2, g3⟩ := xMV hg hf
  have hdl : ∀ p ∈ gdel (keyB nm) M.ob, p ∈ M.ob := x2S _ _
  unfold endM
  cases hth : W.th
  ·simp only [Bool.false_eq_true, if_false]
   have hes : es = [] := by
    have : needsB W.d = 0 := by rw [hw.z hth]; rfl
    exact xIN (fun e he => g1.pos e (mem_append.2 (.inl he))) (by omega)
   subst hes
   refine ⟨⟨h.keys.del _, by have := x9B (keyB nm) M.ob; have := h.few; simp only; omega, by simp only; rw [g3]; exact h.len, h.bl, by simpa using g1, fun p hp => ?_, fun p hp => h.nms p (hdl p hp)⟩, g3, trivial⟩
   have := h.obs p (hdl p hp)
   exact ⟨this.d, this.e, by have := this.a; omega, this.v⟩
  ·simp only [if_true]
   refine ⟨⟨h.keys.put _ _, by have := x5U (keyB nm) (⟨W.d, W.a, es⟩ : Ob) M.ob; have := h.few; simp only; omega, by simp only; rw [g3]; exact h.len, h.bl, g1.perm (xN2 (keyB nm) (⟨W.d, W.a, es⟩ : Ob)).symm, fun p hp => ?_, fun p hp => ?_⟩, g3, trivial⟩
   ·rcases x2R hp with rfl | hp
    ·exact ⟨hw.d, g2, by have := hw.a; simp only; omega, hw.v⟩
    ·have := h.obs p hp
     exact ⟨this.d, this.e, by have := this.a; omega, this.v⟩
   ·rcases x2R hp with rfl | hp
    ·exact ⟨nm, rfl, hn⟩
    ·exact h.nms p hp
structure SV where
 x : StepV
 D : OA
 c : Nat
def SV.cs (s : SV) : List Value := [.int .i64 s.x.kd, .int .i64 s.x.at_, .int .i64 s.x.ln, .string (strOf s.x.nm), .slice s.D s.x.dt.length s.c]
theorem SV.cs_len (s : SV) : s.cs.length = 5 := rfl
structure StepsR (w : World) (B : Nat) (A : OA) (l : List SV) : Prop where
 row : Reads w B 5 A l.length (l.flatMap SV.cs)
 els : ∀ s ∈ l, StepIn w s.x B s.D
theorem StepsR.since {l : List SV} (h : StepsR w B A l) (hb : Below w.heap.size w w') : StepsR w' B A l := ⟨h.row.since hb, fun s hs => (h.els s hs).since hb⟩
theorem StepsR.get {l : List SV} (h : StepsR w B A l) {s : SV} (hk : l[k]? = some s) : ∃ ad, A = some ad /\ ad.block < B /\ ∀ j v, s.cs[j]? = some v -> w.cell? ((ad.add (k * 5)).add j) = some v := by
 have hl := (List.getElem?_eq_some_iff.1 hk).1
 obtain ⟨ad, e, hb, hc⟩ := h.row.2 (by omega)
 refine ⟨ad, e, hb, fun j v hj => ?_⟩
 rw [x1Q]
 have hj5 : j < 5 := by have := (List.getElem?_eq_some_iff.1 hj).1; rwa [SV.cs_len] at this
 exact hc _ v (by rw [x1K SV.cs 5 SV.cs_len l k j s hk hj5]; exact hj)
theorem x8W (w : World) (p : Addr) (s : SV) (hc : ∀ j v, s.cs[j]? = some v -> w.cell? (p.add j) = some v) : (loadVar 52 p).run prog w = .ok (.agg s.cs.toArray) w := by
 have hl : (loadCells p 5).run prog w = .ok s.cs.toArray w := run_loadCells_list (P := prog) w p s.cs hc
 have hagg : (isAgg 52).run prog w = .ok true w := by
  unfold isAgg
  rw [Sem.run_bind, run_underlying underlying52 w]
  rfl
 have hi : (prog.info? 52).map (·.size) = some 5 := by kernel_rfl
 cases hq : prog.info? 52 with
 | none => simp [hq] at hi
 | some i =>
  have hs : i.size = 5 := by simpa [hq] using hi
  simp [loadVar, Sem.run_bind, hagg, sizeOf, typeInfo, hq, hs, hl]
theorem x0S {ops : Array Oper} {rest : List Oper} {op : Oper} (hgd : op.guard = none) (x : Operand) (ho : op.op = .load 52 x)
 (p : Addr) (hx : a.eval x = .pointer (some p)) (s : SV) (hc : ∀ j v, s.cs[j]? = some v -> w.cell? (p.add j) = some v)
  (h : wpList prog ops Q rest (a.put op.dst (.agg #[.int .i64 s.x.kd, .int .i64 s.x.at_, .int .i64 s.x.ln, .string (strOf s.x.nm), .slice s.D s.x.dt.length s.c])) w) : wpList prog ops Q (op :: rest) a w :=
 wpList_plain hgd fun _ hK => by
  unfold Oper.wp execOp
  simp only [ho, hx, Instr.loadAt, Instr.sureAddr, Sem.run_bind, Sem.run_pure, kS, x8W w p s hc]
  exact hK _ _ h
def ToldR (w : World) (B : Nat) (v : Value) (told : List LN) : Prop := ∃ T ct tv, v = .slice T told.length ct /\ w.ownsRow B 35 1 v told.length tv /\ Rel2 (RowR w B []) tv told
def DoTo (w0 : World) (Z : LN) (gs ms gp r c : Nat) (A : OA) (M : Mod) (nm : LN) (xs : List StepV) (e : Ending) (w' : World) : Prop :=
  Only (ms :: foot gp r M.fl) w0 w' /\ ∃ M' n told v kv', DoR M nm xs M' n told /\ StoreAt w' Z gs ms gp r c A M' kv' /\ e = .returned (.tuple #[v, errV n]) /\ ToldR w' w0.heap.size v told
theorem ToldR.nil (w : World) (B : Nat) : ToldR w B (.slice none 0 0) [] := ⟨none, 0, [], rfl, World.ownsRow_nil _ _ _ _, .nil⟩
theorem x3L {xs : List StepV} : runW bl W (x :: xs) = if (stepW bl W x).2 = 0 then runW bl (stepW bl W x).1 xs else stepW bl W x := rfl
theorem xP3 {n0 cs : Nat} {As : OA} (h : StoreAt w0 Z gs ms gp r c1 A1 M kvs) (hZ : ms ∈ Z) (hZl : ∀ z ∈ Z, z < w0.heap.size) (hI : Inv n0 M) (hn0 : n0 <= 900000) (nm : LN) (hsm : Small nm) (hnm : nm.length <= 1000000)
 {l : List SV} (hl : StepsR w0 B As l) (hB : B <= w0.heap.size) (hll : l.length <= cs) (hl6 : l.length <= 1000000) :
    Calls prog 19 #[.pointer (some ⟨gs, 0, none⟩), .string (strOf nm), .slice As l.length cs] w0 (DoTo w0 Z gs ms gp r c1 A1 M nm (l.map SV.x)) := by
  have HH := kH (kA h (kA hZ (kA hZl hI)))
  have HL := kH hl
  have HNM := kH (x3Z nm hsm hnm w0)
  have hkn : kvs.length <= 1000000 := by rw [h.obs.len]; have := hI.few; omega
  have HKN := kH hkn
  clear h hZ hZl hI hl hkn
  go_enter func19, ntmps19
  go_wp2_with fail
  refine HNM.out.mono ?_
  rintro e w1 ⟨rfl, hb1⟩
  have h1 := HH.out.1.below hb1
  have HB1 := kH hb1
  have H1 := kH h1
  clear h1 hb1 HNM
  have hrange : ∀ w', Below w0.heap.size w0 w' -> (isNameB nm = false ∨ (l.map SV.x).length < 1 ∨ 16 < (l.map SV.x).length) -> DoTo w0 Z gs ms gp r c1 A1 M nm (l.map SV.x) (.returned (.tuple #[.slice none 0 0, errV 1])) w' := fun w' hb hr => ⟨kO hb _, M, 1, [], _, kvs, .range hr, HH.out.1.below hb, rfl, ToldR.nil _ _⟩
  have HRG := kH hrange
  clear hrange
  simp only [errV] at HRG
  cases hnb : isNameB nm
  · have HN := kH hnb
    clear hnb
    go_wp2
    go_ret2
    exact HRG.out _ HB1.out (.inl HN.out)
  by_cases hlo : l.length < 1
  · have hd : decide ((l.length : Int) < 1) = true := decide_eq_true (by omega)
    have HN := kH hnb
    clear hnb
    go_wp2
    go_ret2
    exact HRG.out _ HB1.out (.inr (.inl (by simpa using hlo)))
  by_cases hhi : 16 < l.length
  · have hd : decide ((l.length : Int) < 1) = false := decide_eq_false (by omega)
    have hd2 : decide ((16 : Int) < (l.length : Int)) = true := decide_eq_true (by omega)
    have HN := kH hnb
    clear hnb
    go_wp2
    go_ret2
    exact HRG.out _ HB1.out (.inr (.inr (by simpa using hhi)))
  have hd : decide ((l.length : Int) < 1) = false := decide_eq_false (by omega)
  have hd2 : decide ((16 : Int) < (l.length : Int)) = false := decide_eq_false (by omega)
  have HN := kH hnb
  clear hnb HRG
  have HBG := kH (xK0 H1.out nm hnm (fun p hp => by
    have ho := HH.out.2.2.2.obs p hp
    have hg := HH.out.2.2.2.good
    have hcn := x9G hg
    have hsub : ∀ e ∈ p.2.e, e ∈ exts M.ob := fun e he => mem_flatMap.2 ⟨p, hp, he⟩
    have hpe := x2E (L := p.2.e) (fun e he => hg.pos e (hsub e he))
    have := ho.e
    have := ho.d
    unfold needsB at this
    exact ⟨ho.d, by have := ho.e; have := ho.d; unfold needsB at *; omega⟩))
  go_wp2_with fail
  refine HBG.out.mono ?_
  rintro e w2 ⟨gw, rfl, hwk2, hb2⟩
  have hb02 : Below w0.heap.size w0 w2 := HB1.out.trans (hb2.mono HB1.out.size)
  have HW2 : Hid (Wkd w2 w0.heap.size gw gs (startW M (keyB nm))) := kH (by
    obtain ⟨c, ce, ct, D, E, T, av, kv, tv, hw⟩ := hwk2
    have hs := HB1.out.size
    exact ⟨c, ce, ct, D, E, T, av, kv, tv, ⟨hw.blk, by have := hw.gB; omega, x0B hw.dat hs, hw.ok, by
      rcases hw.map with e | ⟨mb, e, h1, h2⟩
      · exact .inl e
      · exact .inr ⟨mb, e, by omega, h2⟩, hw.att, x0B hw.ext hs, x0B hw.tol hs, hw.els.imp fun a b hr => hr.weaken hs⟩⟩)
  have HB2 := kH hb02
  clear hb02 hb2 hwk2 HBG
  go_wp2
  go_loopw [35] (fun i wr => ∃ (k : Nat) (Wk : Wk), k <= l.length /\ i = .int .i64 k /\ Wkd wr w0.heap.size gw gs Wk /\ Below w0.heap.size w0 wr /\ WB (n0 + k) Wk /\ Wk.e = (startW M (keyB nm)).e /\ runW M.bl (startW M (keyB nm)) (l.map SV.x) = runW M.bl Wk ((l.map SV.x).drop k)) (fun i _ => l.length - (intS i).toNat)
  case atStart => exact ⟨0, _, kY _, rfl, HW2.out, HB2.out, xEL HH.out.2.2.2 _, rfl, by simp⟩
  case round =>
    obtain ⟨k, Wk, hk, rfl, hwk, hb, hwb, hwe, hrun⟩ := hrel
    obtain ⟨c, ce, ct, D, E, T, av, kv, tv, hw⟩ := hwk
    obtain ⟨wo, hwo⟩ := kX wr
    subst hwo
    have HW := kH (kA hw (kA hb (kA hwb (kA hwe hrun))))
    have hgwl := hw.blk.lt
    clear hw hb hwb hwe hrun HW2
    have hwk1 := wK k (by omega)
    by_cases hlt : k < l.length
    -- {R
    · obtain ⟨s, hs⟩ : ∃ s, l[k]? = some s := ⟨_, List.getElem?_eq_getElem hlt⟩
      obtain ⟨ad, rfl, hab, hc⟩ := (HL.out.since HW.out.2.1).get hs
      have HS := kH hs
      clear hs
      have hx := HL.out.els s (mem_of_getElem? HS.out)
      have hdr : (l.map SV.x).drop k = s.x :: (l.map SV.x).drop (k + 1) := by
        have hkl : k < (l.map SV.x).length := by simpa using hlt
        rw [drop_eq_getElem_cons hkl]
        congr 1
        have := HS.out
        rw [List.getElem?_eq_getElem hlt] at this
        injection this with this
        simp [this]
      have HDR := kH hdr
      have HD : Hid (∀ w3, Below wo.heap.size wo w3 -> Calls prog 65 #[.pointer (some ⟨gw, 0, none⟩), .agg #[.int .i64 s.x.kd, .int .i64 s.x.at_, .int .i64 s.x.ln, .string (strOf s.x.nm), .slice s.D s.x.dt.length s.c]] w3 (StepTo w3 w0.heap.size gw gs (stepW M.bl Wk s.x).1 (errV (stepW M.bl Wk s.x).2))) := kH fun w3 hb3 => by
        have hb03 : Below w0.heap.size w0 w3 := HW.out.2.1.trans (hb3.mono HW.out.2.1.size)
        have hbw := HW.out.2.2.1
        exact xOW (cx := s.c) (HW.out.1.below hb3) hb03.size ⟨hbw.d, by have := hbw.a; omega, by have := hbw.t; omega, fun k bs hg => by have := hbw.v _ (x1S hg); simp only at this; omega⟩ (hx.since hb03) hB (fun w' hb' => xFI (HH.out.1.st.below (hb03.trans (hb'.mono hb03.size))) _)
      clear hx hdr
      go_wp2_with (have _h := hc; refine x0S rfl (.tmp 37) rfl _ rfl s hc ?_; clear _h hc)
      refine (HD.out _ (x05 _ _)).mono ?_
      rintro e w4 ⟨rfl, hwk4, hb4⟩
      have hb04 : Below w0.heap.size w0 w4 := (HW.out.2.1.alloc HW.out.2.1.size _).trans hb4
      have HW4 := kH (kA hwk4 hb04)
      clear hwk4 hb4 hb04 HD
      obtain ⟨hwb1, hwe1⟩ := xGK (bl := M.bl) (x := s.x) HW.out.2.2.1
      have HWB := kH (kA hwb1 (hwe1.trans HW.out.2.2.2.1))
      have hrn := HW.out.2.2.2.2
      rw [HDR.out, x3L] at hrn
      clear hwb1 hwe1
      cases hz : (stepW M.bl Wk s.x).2 with
      | zero =>
        rw [if_pos hz] at hrn
        have HRN := kH hrn
        clear hrn hz
        simp only [errV]
        go_wp2
        go_roundw
        case rel => exact ⟨k + 1, _, by omega, by go_num, HW4.out.1, HW4.out.2, by have := HWB.out.1; rwa [Nat.add_assoc] at this, HWB.out.2, HRN.out⟩
        case measure => simp [intS]; omega
      | succ n =>
        have hne : ¬ ((stepW M.bl Wk s.x).2 = 0) := by rw [hz]; omega
        rw [if_neg hne] at hrn
        have hfin : DoTo w0 Z gs ms gp r c1 A1 M nm (l.map SV.x) (.returned (.tuple #[.slice none 0 0, errV (n + 1)])) w4 := by
          refine ⟨kO HW4.out.2 _, M, n + 1, [], _, kvs, ?_, HH.out.1.below HW4.out.2, rfl, ToldR.nil _ _⟩
          have he : (runW M.bl (startW M (keyB nm)) (l.map SV.x)).2 = n + 1 := by rw [hrn, hz]
          rw [<- he]
          exact .step HN.out (by simp; omega) (by simp; omega) (by rw [he]; omega)
        have HFIN := kH hfin
        clear hfin hrn hz hne
        simp only [errV] at HFIN ⊢
        go_wp2
        go_ret2
        exact HFIN.out
    -- R}
    · obtain rfl : k = l.length := by omega
      have hrn := HW.out.2.2.2.2
      rw [List.drop_eq_nil_of_le (by simp)] at hrn
      have hrn' : runW M.bl (startW M (keyB nm)) (l.map SV.x) = (Wk, 0) := hrn
      obtain ⟨e1, e2, e3, e4⟩ := x7K HH.out.2.2.2 (keyB nm)
      rw [<- HW.out.2.2.2.1] at e1 e2 e3
      have HE := kH (xOK HW.out.1 HW.out.2.1 HH.out.1 HH.out.2.1 HH.out.2.2.1 HKN.out nm hnm HW.out.2.2.1.d e1 e2 e3 (fun hlt => by
        have := xOQ HH.out.2.2.2 (keyB nm) (m := lens Wk.e - needsB Wk.d) (by rw [<- HW.out.2.2.2.1]; omega)
        rw [<- HW.out.2.2.2.1] at this
        exact this))
      have HRN := kH hrn'
      clear hrn hrn' e1 e2 e3 e4 hlt
      go_wp2_with fail
      refine HE.out.mono ?_
      rintro e w5 ⟨hon, es, fl', n, hfit, rfl, ⟨rfl, hst⟩ | ⟨rfl, ⟨kv', hst⟩, T5, ct5, tv5, c4, hown5, hels5⟩⟩
      · have hfin : DoTo w0 Z gs ms gp r c1 A1 M nm (l.map SV.x) (.returned (.tuple #[.slice none 0 0, errV 4])) w5 := by
          refine ⟨hon, M, 4, [], _, kvs, .full (es := es) (fl := fl') HN.out (by simp; omega) (by simp; omega) (by rw [HRN.out]) (by rw [HRN.out]; exact hfit), hst, rfl, ToldR.nil _ _⟩
        have HFIN := kH hfin
        clear hfin hon hfit hst
        simp only [errV] at HFIN ⊢
        go_wp2
        go_ret2
        exact HFIN.out
      · have hfin : DoTo w0 Z gs ms gp r c1 A1 M nm (l.map SV.x) (.returned (.tuple #[.slice T5 Wk.told.length ct5, errV 0])) w5 := by
          refine ⟨hon, endM M (keyB nm) Wk es fl', 0, Wk.told, _, kv', ?_, hst, rfl, T5, ct5, tv5, rfl, hown5, hels5⟩
          have hdn := DoR.done (M := M) (nm := nm) (xs := l.map SV.x) (es := es) (fl := fl') HN.out (by simp; omega) (by simp; omega) (by rw [HRN.out]) (by rw [HRN.out]; exact hfit)
          rw [HRN.out] at hdn
          exact hdn
        have HFIN := kH hfin
        clear hfin hon hfit hst hown5 hels5
        simp only [errV] at HFIN ⊢
        go_wp2
        go_ret2
        exact HFIN.out
section
def Srdat (w : World) (base : Nat) (F : LN) (g : Nat) (s : RD) : Prop :=
  ∃ A c, F = g :: (A.map Addr.block).toList /\ Blk w g 259 #[.slice A s.bs.length c, .bool s.bad] /\ Bytes w w.heap.size A s.bs.length s.bs /\ s.bs.length <= c /\ c <= maxLen /\ base <= g /\ (∀ a, A = some a -> base <= a.block /\ a.block < w.heap.size /\ a.block ≠ g) /\ s.Good
def Srd (w : World) (base : Nat) (F : LN) (p : OA) (s : RD) : Prop := (p = none /\ F = [] /\ s = RD.spoilt) ∨ ∃ g, p = some ⟨g, 0, none⟩ /\ Srdat w base F g s
def heads (p : OA) : LN := (p.map Addr.block).toList
def Srto (w : World) (base : Nat) (F : LN) (p : OA) (s : RD) (w' : World) : Prop := ∃ F', Srd w' base F' p s /\ Only (heads p) w w' /\ ∀ k ∈ F', k ∈ F
section
variable {w w' w1 : World} {base g : Nat} {F : LN} {p : OA} {s : RD}
theorem Srdat.of (h : Srdat w base F g s) (hs : w.heap.size <= w'.heap.size) (hk : ∀ k, k ∈ F -> w'.heap[k]? = w.heap[k]?) : Srdat w' base F g s := by
 obtain ⟨A, c, rfl, h1, h2, h3, h4, h5, h6, h7⟩ := h
 refine ⟨A, c, rfl, h1.of (hk g (by simp)), ⟨⟨h2.1.1, fun hn => ?_⟩, h2.2⟩, h3, h4, h5, fun a ha => ⟨(h6 a ha).1, kL (h6 a ha).2.1 hs, (h6 a ha).2.2⟩, h7⟩
 obtain ⟨ad, e, hB, hc⟩ := h2.1.2 hn
 exact ⟨ad, e, kL hB hs, fun j u hu => (World.cell?_of_block (hk _ (by rw [x0K, e]; simp))).trans (hc j u hu)⟩
theorem Srdat.under (h : Srdat w base F g s) : Under w F := by
 obtain ⟨A, c, rfl, h1, h2, h3, h4, h5, h6, h7⟩ := h
 intro k hk
 rcases kQ hk with rfl | hk
 ·exact h1.lt
 ·cases A with
  | none => cases hk
  | some a => simp at hk; subst hk; exact (h6 a rfl).2.1
theorem Srdat.over (h : Srdat w base F g s) : Over base F := by
 obtain ⟨A, c, rfl, h1, h2, h3, h4, h5, h6, h7⟩ := h
 intro k hk
 rcases kQ hk with rfl | hk
 ·exact h5
 ·cases A with
  | none => cases hk
  | some a => simp at hk; subst hk; exact (h6 a rfl).1
theorem Srd.under (h : Srd w base F p s) : Under w F := by
 rcases h with ⟨_, rfl, _⟩ | ⟨g, _, h⟩
 ·exact fun k hk => by cases hk
 ·exact h.under
theorem Srd.over (h : Srd w base F p s) : Over base F := by
 rcases h with ⟨_, rfl, _⟩ | ⟨g, _, h⟩
 ·exact fun k hk => by cases hk
 ·exact h.over
theorem Srd.of (h : Srd w base F p s) (hs : w.heap.size <= w'.heap.size) (hk : ∀ k, k ∈ F -> w'.heap[k]? = w.heap[k]?) : Srd w' base F p s := by
 rcases h with h | ⟨g, hp, h⟩
 ·exact .inl h
 ·exact .inr ⟨g, hp, h.of hs hk⟩
theorem Srd.below (h : Srd w base F p s) (hb : Below w.heap.size w w') : Srd w' base F p s := h.of hb.size fun k hk => hb.block k (h.under k hk)
theorem Srd.good (h : Srd w base F p s) : s.Good := by
 rcases h with ⟨_, _, rfl⟩ | ⟨g, _, A, c, _, _, _, _, _, _, _, h⟩
 ·exact RD.spoilt_good
 ·exact h
theorem Srd.head (h : Srd w base F p s) : ∀ k ∈ heads p, k ∈ F := fun k hk => by
 rcases h with ⟨rfl, _, _⟩ | ⟨g, rfl, A, c, rfl, _⟩
 ·cases hk
 ·simp [heads] at hk
  simp [hk]
theorem Srto.after {F1 : LN} (ho : Only (heads p) w w1) (hf : ∀ k ∈ F1, k ∈ F) (h : Srto w1 base F1 p s w') : Srto w base F p s w' := by
 obtain ⟨F2, h1, h2, h3⟩ := h
 exact ⟨F2, h1, ho.trans h2 (kF _ _), fun k hk => hf k (h3 k hk)⟩
theorem Srto.stay (h : Srd w base F p s) : Srto w base F p s w := ⟨F, h, kU _ _, fun _ h => h⟩
theorem Srto.then_ (h : Srto w base F p s w1) (hb : Below w1.heap.size w1 w') : Srto w base F p s w' := by
 obtain ⟨F2, h1, h2, h3⟩ := h
 exact ⟨F2, h1.below hb, h2.trans (kO hb _) (kF _ _), h3⟩
end
theorem x5R (w : World) (base : Nat) (F : LN) (p : OA) (s : RD) (h : Srd w base F p s) :
  Calls prog 220 #[.pointer p] w fun e w' => e = .returned (.int .i64 s.bs.length) /\ w = w' := by
 rcases h with ⟨rfl, rfl, rfl⟩ | ⟨g, rfl, A, c, rfl, h1, h2, h3, h4, h5, h6, h7⟩
 ·go_enter func220, ntmps220
  go_wp2
  go_ret
  exact ⟨rfl, rfl⟩
 ·have hc : w.cell? ⟨g, 0, none⟩ = some (.slice A s.bs.length c) := by rw [h1.cell]; rfl
  go_enter func220, ntmps220
  go_wp2
  go_ret
  exact ⟨rfl, rfl⟩
theorem xC7 (w : World) : (zeroValue 259).run prog w = .ok (.agg #[.slice none 0 0, .bool false]) w := by kernel_rfl
theorem x4X (w : World) (base : Nat) (F : LN) (p : OA) (s : RD) (h : Srd w base F p s) :
  Calls prog 185 #[.pointer p] w fun e w' => e = .returned (.tuple #[]) /\ Srto w base F p RD.spoilt w' := by
 rcases h with ⟨rfl, rfl, rfl⟩ | ⟨g, rfl, A, c, rfl, h1, h2, h3, h4, h5, h6, h7⟩
 ·go_enter func185, ntmps185
  go_wp2
  refine kZ (results_none rfl _ _ _) rfl ?_
  exact ⟨rfl, Srto.stay (.inl ⟨rfl, rfl, rfl⟩)⟩
 ·have hc0 : w.cell? ⟨g, 0, none⟩ = some (.slice A s.bs.length c) := by rw [h1.cell]; rfl
  have hc1 : w.cell? ⟨g, 1, none⟩ = some (.bool s.bad) := by rw [h1.cell]; rfl
  have hf0 : w.frozen? ⟨g, 0, none⟩ = false := h1.frozen _
  have hf1 : w.frozen? ⟨g, 1, none⟩ = false := h1.frozen _
  have hz := xC7
  go_enter func185, ntmps185
  go_wp2
  refine kZ (results_none rfl _ _ _) rfl ?_
  have hb2 : Blk ((w.setCell ⟨g, 0, none⟩ (.slice none 0 0)).setCell ⟨g, 1, none⟩ (.bool true)) g 259 #[.slice none 0 0, .bool true] := (h1.set_ 0 _).set_ 1 _
  exact ⟨rfl, [g], .inr ⟨g, rfl, none, 0, rfl, hb2, ⟨Reads.none_, fun b hb => by cases hb⟩, kR _, by simp [maxLen], h5, fun a ha => (by cases ha), RD.spoilt_good⟩,
   ((kU _ _).setCell (.inl (by simp [heads])) _).setCell (.inl (by simp [heads])) _, fun k hk => (by simp at hk; subst hk; simp)⟩
theorem x5W (A : OA) (k cap : Nat) (a : Addr) (h : (if cap = k then A else A.map (·.add k)) = some a) : ∃ a', A = some a' /\ a'.block = a.block := by
 split at h
 ·exact ⟨a, h, rfl⟩
 ·cases A with
  | none => cases h
  | some a' => simp at h; exact ⟨a', rfl, by rw [<- h, x0K]⟩
theorem xFG (w : World) (base g k : Nat) (A : OA) (c : Nat) (s : RD) (h1 : Blk w g 259 #[.slice A s.bs.length c, .bool s.bad]) (h2 : Bytes w w.heap.size A s.bs.length s.bs) (h3 : s.bs.length <= c) (h4 : c <= maxLen) (h5 : base <= g) (h6 : ∀ a, A = some a -> base <= a.block /\ a.block < w.heap.size /\ a.block ≠ g) (h7 : s.Good) (hk : k <= s.bs.length) (hbad : s.bad = false) :
    Srto w base (g :: (A.map Addr.block).toList) (some ⟨g, 0, none⟩) ⟨s.bs.drop k, false⟩ (w.setCell ⟨g, 0, none⟩ (.slice (if c = k then A else A.map (·.add k)) (s.bs.length - k) (c - k))) ∧
    Bytes (w.setCell ⟨g, 0, none⟩ (.slice (if c = k then A else A.map (·.add k)) (s.bs.length - k) (c - k))) w.heap.size A k (s.bs.take k) := by
  have hset : ∀ (B n : Nat) (A' : OA) (bs : LN) (v : Value), Bytes w B A' n bs -> (∀ a, A' = some a -> a.block ≠ g) -> Bytes (w.setCell ⟨g, 0, none⟩ v) B A' n bs := fun B n A' bs v h hne =>
    ⟨⟨h.1.1, fun hn => by
      obtain ⟨ad, e, hB, hc⟩ := h.1.2 hn
      exact ⟨ad, e, hB, fun j u hu => (World.cell?_setCell_other _ _ _ _ (fun e' => hne ad e (by have := congrArg Addr.block e'; rw [x0K] at this; exact this.symm))).trans (hc j u hu)⟩⟩, h.2⟩
  have hcut : Bytes w w.heap.size (if c = k then A else A.map (·.add k)) (s.bs.length - k) (s.bs.drop k) := by
    have := h2.1.cut hk h3
    rw [Nat.mul_one, u8s, <- map_drop] at this
    exact ⟨this, fun b hb => h2.2 b (mem_of_mem_drop hb)⟩
  refine ⟨⟨g :: ((if c = k then A else A.map (·.add k)).map Addr.block).toList, .inr ⟨g, rfl, _, c - k, rfl, ?_, ?_, ?_, by omega, h5, fun a ha => ?_, ?_⟩, (kU _ _).setCell (.inl (by simp [heads])) _, fun j hj => ?_⟩, hset _ _ _ _ _ (h2.take hk) (fun a ha => (h6 a ha).2.2)⟩
  · have := h1.set_ 0 (.slice (if c = k then A else A.map (·.add k)) (s.bs.length - k) (c - k))
    rw [hbad] at this
    simpa using this
  · have := hset _ _ _ _ (.slice (if c = k then A else A.map (·.add k)) (s.bs.length - k) (c - k)) hcut (fun a ha => by
      obtain ⟨a', h, hb⟩ := x5W A k c a ha
      rw [<- hb]
      exact (h6 a' h).2.2)
    simp only [length_drop]
    exact this.more (by simp [World.setCell])
  · simp only [length_drop]; omega
  · obtain ⟨a', h, hb⟩ := x5W A k c a ha
    rw [<- hb]
    have := h6 a' h
    exact ⟨this.1, by simpa [World.setCell] using this.2.1, this.2.2⟩
  · exact ⟨fun e => (by cases e), fun b hb => h7.2 b (mem_of_mem_drop hb)⟩
  · rcases kQ hj with rfl | hj
    · simp
    · refine kM _ ?_
      simp only [Option.mem_toList, Option.mem_def, Option.map_eq_some_iff] at hj ⊢
      obtain ⟨a, ha, rfl⟩ := hj
      obtain ⟨a', h, hb⟩ := x5W A k c a ha
      exact ⟨a', h, hb⟩
theorem x40 (w : World) (base : Nat) (F : LN) (p : OA) (s : RD) (n : Int) (h : Srd w base F p s) (hn1 : -9223372036854775808 <= n) (hn2 : n <= 9223372036854775807) :
  Calls prog 182 #[.pointer p, .int .i64 n] w fun e w' => ∃ A c, e = .returned (.slice A (s.got n).length c) /\ Srto w base F p (s.take n) w' /\ (∃ B, Bytes w' B A (s.got n).length (s.got n)) /\ (∀ a, A = some a -> a.block ∈ F) /\ (A = none -> (s.got n).length = 0) := by
 by_cases h0 : n < 0
 ·obtain ⟨e1, e2⟩ := RD.take_un (s := s) (.inl h0)
  rw [e1, e2]
  have hd : decide (n < 0) = true := by simpa using h0
  go_enter func182, ntmps182
  go_wp2_with fail
  refine (x4X w base F p s h).mono ?_
  rintro e w1 ⟨rfl, r1⟩
  go_wp2
  go_ret
  exact ⟨none, 0, rfl, r1, ⟨0, Reads.none_, fun b hb => by cases hb⟩, fun a ha => (by cases ha), by simp⟩
 ·have hd : decide (n < 0) = false := by simpa using h0
  by_cases hl : (s.bs.length : Int) < n
  ·obtain ⟨e1, e2⟩ := RD.take_un (s := s) (n := n) (.inr (.inl hl))
   rw [e1, e2]
   have hd2 : decide ((s.bs.length : Int) < n) = true := by simpa using hl
   go_enter func182, ntmps182
   go_wp2_with fail
   refine (x5R w base F p s h).mono ?_
   rintro e w1 ⟨rfl, rfl⟩
   go_wp2_with fail
   refine (x4X w base F p s h).mono ?_
   rintro e w1 ⟨rfl, r1⟩
   go_wp2
   go_ret
   exact ⟨none, 0, rfl, r1, ⟨0, Reads.none_, fun b hb => by cases hb⟩, fun a ha => (by cases ha), by simp⟩
  ·have hd2 : decide ((s.bs.length : Int) < n) = false := by simpa using hl
   obtain ⟨k, rfl⟩ := Int.eq_ofNat_of_zero_le (show 0 <= n by omega)
   by_cases hk0 : k = 0
   ·subst hk0
    have hd3 : (((0 : Nat) : Int) == 0) = true := rfl
    have e1 : s.take ((0 : Nat) : Int) = s /\ s.got ((0 : Nat) : Int) = [] := by
     cases hb : s.bad with
     | true => rw [RD.eta h.good hb]; exact ⟨rfl, rfl⟩
     | false =>
      obtain ⟨e1, e2⟩ := RD.take_fit (k := 0) hb (kY _)
      rw [e1, e2]
      obtain ⟨bs, bad⟩ := s
      simp at hb
      subst hb
      exact ⟨rfl, rfl⟩
    rw [e1.1, e1.2]
    go_enter func182, ntmps182
    go_wp2_with fail
    refine (x5R w base F p s h).mono ?_
    rintro e w1 ⟨rfl, rfl⟩
    go_wp2
    go_ret
    exact ⟨none, 0, rfl, Srto.stay h, ⟨0, Reads.none_, fun b hb => by cases hb⟩, fun a ha => (by cases ha), by simp⟩
   ·have hd3 : ((k : Int) == 0) = false := by simp; omega
    have hkl : k <= s.bs.length := by omega
    have hbad : s.bad = false := by
     cases hb : s.bad with
     | false => rfl
     | true => have := h.good.1 hb; rw [this] at hkl; simp at hkl; omega
    obtain ⟨e1, e2⟩ := RD.take_fit hbad hkl
    rw [e1, e2]
    have hlc := x5R w base F p s h
    rcases h with ⟨rfl, rfl, rfl⟩ | ⟨g, rfl, A, c, rfl, h1, h2, h3, h4, h5, h6, h7⟩
    ·simp [RD.spoilt] at hkl; omega
    ·have hc0 : w.cell? ⟨g, 0, none⟩ = some (.slice A s.bs.length c) := by rw [h1.cell]; rfl
     have hf0 : w.frozen? ⟨g, 0, none⟩ = false := h1.frozen _
     unfold maxLen at h4
     have q1 : (0 : Int) <= (k : Int) := by omega
     have q2 : (k : Int) <= (c : Int) := by omega
     have q3 : (k : Int) <= (s.bs.length : Int) := by omega
     have hkc : k <= c := by omega
     go_enter func182, ntmps182
     go_wp2_with fail
     refine hlc.mono ?_
     rintro e w1 ⟨he, hw⟩
     subst hw
     subst he
     have hdone := xFG w base g k A c s h1 h2 h3 h4 h5 h6 h7 hkl hbad
     have hlen : (s.bs.take k).length = k := by rw [length_take]; omega
     have hAF : ∀ a, A = some a -> a.block ∈ g :: (A.map Addr.block).toList := fun a ha => by subst ha; simp
     have hAn : A = none -> (s.bs.take k).length = 0 := fun ha => by
      subst ha
      obtain ⟨_, h, _⟩ := h2.1.2 (by omega)
      cases h
     have HD := kH hdone
     have HAF := kH hAF
     have HAn := kH hAn
     clear hdone hAF hAn
     by_cases hck : c = k
     ·have hHD := HD.out
      rw [if_pos hck] at hHD
      have HD2 := kH hHD
      clear hHD HD
      subst hck
      go_wp2
      go_ret
      rw [hlen]
      have := HD2.out
      rw [Nat.sub_self, show s.bs.length - c = 0 by omega] at this
      exact ⟨A, _, rfl, this.1, ⟨_, this.2⟩, HAF.out, by rw [<- hlen]; exact HAn.out⟩
     ·have hHD := HD.out
      rw [if_neg hck] at hHD
      have HD2 := kH hHD
      clear hHD HD
      go_wp2
      go_ret
      rw [hlen]
      exact ⟨A, _, rfl, HD2.out.1, ⟨_, HD2.out.2⟩, HAF.out, by rw [<- hlen]; exact HAn.out⟩
end
theorem x6X : (prog.info? 5).map (·.size) = some 1 := by kernel_rfl
theorem x57 {o : Oper} {K : Act -> World -> Prop} (x y : Operand) (ho : o.op = .call {callee := .builtin .copy, args := #[x, y], argTypes := #[35, 35] })
 (gb m : Nat) (t : TypeId) (cur : List Value) (hg : Blk w gb t cur.toArray) (hcur : cur.length = m) (hx : a.eval x = .slice (some ⟨gb, 0, none⟩) m m) (A : OA) (k c B : Nat) (bs : LN) (hy : a.eval y = .slice A k c) (hb : Bytes w B A k bs) (hk : k = m ∨ k = 0) (hm : 0 < m)
 (h : ∀ w', Blk w' gb t (if k = 0 then cur else u8s bs).toArray -> Only [gb] w w' -> K (a.put o.dst (goInt k)) w') : o.wp prog a w K Q := by
 rcases hk with rfl | rfl
 ·obtain ⟨ad, rfl, hB, hc⟩ := hb.1.2 hm
  have hl : (u8s bs).length = k := by rw [x0C, hb.len]
  have hrun := run_copy_row (P := prog) w 35 35 o.type 5 gb 0 k k ad k c cur.toArray t (u8s bs) underlying35 x6X hg (by rw [hl]; exact (Nat.min_self k).symm) hc (by simp [hl, hcur]) (x1W _)
  unfold Oper.wp
  simp [execOp, ho, resolve, invoke, builtin, hx, hy, hrun, Result.andThen]
  rw [hl]
  refine h _ ?_ ?_
  ·rw [if_neg (by omega)]
   have := setRow_heap w gb cur.toArray (u8s bs).toArray t (0, 0) hg
   have e : (u8s bs ++ List.drop k cur).toArray = (u8s bs).toArray := by rw [drop_of_length_le (by omega), append_nil]
   unfold Blk
   simpa [e, hl, hcur, drop_of_length_le (show cur.length <= k by omega)] using this
  ·exact ⟨rfl, rfl, rfl, by simp [World.setRow], fun j hj hn => setRow_other w gb j _ (fun e => hn (by simp [e]))⟩
 ·have hrun := run_copy_none (P := prog) w 35 35 o.type 5 (some ⟨gb, 0, none⟩) A m m 0 c underlying35 x6X (Nat.zero_min m)
  unfold Oper.wp
  simp [execOp, ho, resolve, invoke, builtin, hx, hy, hrun, Result.andThen]
  exact h w (by simpa using hg) (kU _ _)
theorem x7D (s : RD) (k : Nat) : (s.got k).length = k ∨ (s.got k).length = 0 := by
 unfold RD.got
 split
 ·rename_i h
  simp [RD.fits] at h
  left
  rw [length_take]
  omega
 ·exact .inr rfl
theorem x9Z (l : LN) (hl : l.length = 8) (hb : ∀ b ∈ l, b < 256) (w : World) :
  Calls prog 183 #[.agg (u8s l).toArray] w fun e w' => e = .returned (.int .i64 (numOf l)) /\ Below w.heap.size w w' := by
 match l, hl with
 | [b0, b1, b2, b3, b4, b5, b6, b7], _ => exact x7I b0 b1 b2 b3 b4 b5 b6 b7 w (hb _ (by simp)) (hb _ (by simp)) (hb _ (by simp)) (hb _ (by simp)) (hb _ (by simp)) (hb _ (by simp)) (hb _ (by simp)) (hb _ (by simp))
def srpadded (m : Nat) (l : LN) : LN := if l.length = 0 then List.replicate m 0 else l
theorem xAJ (l : LN) : numOf (srpadded 8 l) = numOf l := by
 unfold srpadded
 split
 ·rename_i h
  obtain rfl := eq_nil_of_length_eq_zero h
  simp [numOf, un, List.replicate]
 ·rfl
theorem x1P (w : World) (base : Nat) (F : LN) (p : OA) (s : RD) (h : Srd w base F p s) (hB : base <= w.heap.size) :
  Calls prog 121 #[.pointer p] w fun e w' => e = .returned (.int .i64 s.num) /\ Srto w base F p (s.take 8) w' := by
 obtain ⟨Zs, hz, hZs⟩ : ∃ Zs : List Value, (∀ w, (zeroValue 186).run prog w = .ok (.agg Zs.toArray) w) /\ Zs = u8s (List.replicate 8 0) := ⟨_, x3W, rfl⟩
 have hzl : Zs.length = 8 := by rw [hZs, x0C]; rfl
 have HZ := kH hZs
 clear hZs
 have B0 := kH (kW w 186 Zs.toArray)
 have b0 := x0D w (.cells Zs.toArray 186)
 have H0 := kH (h.below b0)
 have hgw : w.heap.size ∉ F := fun hm => by have := h.under _ hm; omega
 have b0' := kH b0
 clear h b0
 go_enter func121, ntmps121
 go_wp2_with fail
 have hBw : base <= (w.alloc (.cells Zs.toArray 186)).heap.size := kT hB b0'.out.size
 generalize w.alloc (.cells Zs.toArray 186) = w0 at *
 generalize hgb : w.heap.size = gb at *
 refine x2G (by kernel_rfl) ?_
 refine wpAny_take (i := 0) (v := .slice (some ⟨gb, 0, none⟩) 8 8) rfl (by kernel_rfl) (by kernel_rfl) (by kernel_rfl) (fun _ _ _ h => h) (Or.inl ⟨by rfl, fun w => by go_simp⟩) ?_
 simp only [nH, pu, nB, nC, nD]
 refine wpAny_take (i := 1) (v := .pointer p) rfl (by kernel_rfl) (by kernel_rfl) (by kernel_rfl) (fun _ _ _ h => h) (Or.inl ⟨by rfl, fun w => by kernel_rfl⟩) ?_
 simp only [nH, pu, nB, nC, nD]
 refine x1M (i := 2) (by kernel_rfl) rfl (by rfl) ?_
 simp only [nH, pu, nB, nC, nD]
 refine x03 (by kernel_rfl) (x40 w0.drew base F p s 8 (H0.out.of (kR _) (fun _ _ => rfl)) (by omega) (by omega)) ?_
 rintro e w1 ⟨A, c, rfl, ⟨F1, r1, o1, f1⟩, ⟨B, hb⟩, -, -⟩
 refine ⟨_, rfl, ?_⟩
 simp only [nH, pu, nB, nC, nD]
 have B1 : Blk w1 gb 186 Zs.toArray := B0.out.of (o1.block gb B0.out.lt (fun hm => hgw (H0.out.head _ hm)))
 refine x1M (i := 3) (by kernel_rfl) rfl (by rfl) ?_
 simp only [nH, pu, nB, nC, nD]
 refine x57 (.tmp 4) (.tmp 6) rfl gb 8 186 Zs B1 hzl (by rfl) A _ c B _ (by rfl) hb (x7D s 8) (by omega) ?_
 intro w2 B2 o2
 simp only [nH, pu, nB, nC, nD]
 refine wpAny_done (by kernel_rfl) ?_ _
 refine NoPanic.normal ?_
 have hpad : (if (s.got 8).length = 0 then Zs else u8s (s.got 8)) = u8s (srpadded 8 (s.got 8)) := by
  unfold srpadded
  rw [HZ.out]
  split
  ·rfl
  ·rfl
 rw [hpad] at B2
 have hgood := (H0.out.good)
 have hpl : (srpadded 8 (s.got 8)).length = 8 := by
  unfold srpadded
  split
  ·simp
  ·exact (x7D s 8).resolve_right (by assumption)
 have hpb : ∀ b ∈ srpadded 8 (s.got 8), b < 256 := by
  unfold srpadded
  split
  ·intro b hb; obtain ⟨_, rfl⟩ := mem_replicate.1 hb; omega
  ·exact RD.got_lt hgood 8
 have R2 : Srto w base F p (s.take 8) w2 := by
  refine ⟨F1, r1.of o2.size (fun k hk => o2.block k (r1.under k hk) (fun hm => ?_)), ((kO (w' := w0.drew) (by rw [hgb]; exact b0'.out.drew) (heads p)).trans (F' := heads p) o1 (kF _ _)).trans o2 (fun k hk => .inr (by simp at hk; omega)), f1⟩
  simp at hm
  subst hm
  exact hgw (f1 _ hk)
 have HR := kH R2
 have H2 := kH B2
 have hrg : w2.rangeAt gb 0 (u8s (srpadded 8 (s.got 8))) := B2.range
 have hi : (prog.info? 186).map (·.size) = some (u8s (srpadded 8 (s.got 8))).length := by rw [x0C, hpl]; exact x5V
 have hu := underlying186
 have HP := kH (kA hpl hpb)
 clear hpad hpl hpb R2 B2 o2 hb B1 r1 o1 f1 hgood
 go_wp2_with (refine wpList_load_mid rfl 186 (.tmp 3) rfl gb 0 rfl (u8s (srpadded 8 (s.got 8))) _ hrg hu rfl hi ?_)
 refine (x9Z _ HP.out.1 HP.out.2 w2).mono ?_
 rintro e w3 ⟨rfl, b3⟩
 rw [xAJ]
 go_wp2
 go_ret
 exact ⟨rfl, HR.out.then_ b3⟩
theorem xHA (w : World) : (zeroValue 293).run prog w = .ok (.agg (u8s (List.replicate 1 0)).toArray) w := by kernel_rfl
theorem x8T (w : World) (base : Nat) (F : LN) (p : OA) (s : RD) (h : Srd w base F p s) (hB : base <= w.heap.size) :
  Calls prog 184 #[.pointer p] w fun e w' => e = .returned (.int .u8 s.byte) /\ Srto w base F p (s.take 1) w' := by
 obtain ⟨Zs, hz, hZs⟩ : ∃ Zs : List Value, (∀ w, (zeroValue 293).run prog w = .ok (.agg Zs.toArray) w) /\ Zs = u8s (List.replicate 1 0) := ⟨_, xHA, rfl⟩
 have hzl : Zs.length = 1 := by rw [hZs, x0C]; rfl
 have HZ := kH hZs
 clear hZs
 have B0 := kH (kW w 293 Zs.toArray)
 have b0 := x0D w (.cells Zs.toArray 293)
 have H0 := kH (h.below b0)
 have hgw : w.heap.size ∉ F := fun hm => by have := h.under _ hm; omega
 have b0' := kH b0
 clear h b0
 go_enter func184, ntmps184
 go_wp2_with fail
 have hBw : base <= (w.alloc (.cells Zs.toArray 293)).heap.size := kT hB b0'.out.size
 generalize w.alloc (.cells Zs.toArray 293) = w0 at *
 generalize hgb : w.heap.size = gb at *
 refine x2G (by kernel_rfl) ?_
 refine wpAny_take (i := 0) (v := .slice (some ⟨gb, 0, none⟩) 1 1) rfl (by kernel_rfl) (by kernel_rfl) (by kernel_rfl) (fun _ _ _ h => h) (Or.inl ⟨by rfl, fun w => by go_simp⟩) ?_
 simp only [nH, pu, nB, nC, nD]
 refine wpAny_take (i := 1) (v := .pointer p) rfl (by kernel_rfl) (by kernel_rfl) (by kernel_rfl) (fun _ _ _ h => h) (Or.inl ⟨by rfl, fun w => by kernel_rfl⟩) ?_
 simp only [nH, pu, nB, nC, nD]
 refine x1M (i := 2) (by kernel_rfl) rfl (by rfl) ?_
 simp only [nH, pu, nB, nC, nD]
 refine x03 (by kernel_rfl) (x40 w0.drew base F p s 1 (H0.out.of (kR _) (fun _ _ => rfl)) (by omega) (by omega)) ?_
 rintro e w1 ⟨A, c, rfl, ⟨F1, r1, o1, f1⟩, ⟨B, hb⟩, -, -⟩
 refine ⟨_, rfl, ?_⟩
 simp only [nH, pu, nB, nC, nD]
 have B1 : Blk w1 gb 293 Zs.toArray := B0.out.of (o1.block gb B0.out.lt (fun hm => hgw (H0.out.head _ hm)))
 refine x1M (i := 3) (by kernel_rfl) rfl (by rfl) ?_
 simp only [nH, pu, nB, nC, nD]
 refine x57 (.tmp 4) (.tmp 6) rfl gb 1 293 Zs B1 hzl (by rfl) A _ c B _ (by rfl) hb (x7D s 1) (by omega) ?_
 intro w2 B2 o2
 simp only [nH, pu, nB, nC, nD]
 refine wpAny_done (by kernel_rfl) ?_ _
 refine NoPanic.normal ?_
 have hpad : (if (s.got 1).length = 0 then Zs else u8s (s.got 1)) = u8s (srpadded 1 (s.got 1)) := by
  unfold srpadded
  rw [HZ.out]
  split
  ·rfl
  ·rfl
 rw [hpad] at B2
 have R2 : Srto w base F p (s.take 1) w2 := by
  refine ⟨F1, r1.of o2.size (fun k hk => o2.block k (r1.under k hk) (fun hm => ?_)), ((kO (w' := w0.drew) (by rw [hgb]; exact b0'.out.drew) (heads p)).trans (F' := heads p) o1 (kF _ _)).trans o2 (fun k hk => .inr (by simp at hk; omega)), f1⟩
  simp at hm
  subst hm
  exact hgw (f1 _ hk)
 have hcell : w2.cell? ⟨gb, 0, none⟩ = some (.int .u8 s.byte) := by
  rw [B2.cell]
  unfold RD.byte srpadded
  cases hg : s.got 1 with
  | nil => rfl
  | cons b l => rfl
 have HR := kH R2
 clear hpad R2 B2 o2 hb B1 r1 o1 f1
 go_wp2
 go_ret
 exact ⟨rfl, HR.out⟩
theorem xEV (w : World) (base : Nat) (F : LN) (p : OA) (s : RD) (h : Srd w base F p s) (hB : base <= w.heap.size) :
  Calls prog 122 #[.pointer p] w fun e w' => e = .returned (.bool s.flag) /\ Srto w base F p s.flagTo w' := by
 have hby := RD.byte_lt h.good
 have hfl : ((s.byte : Int) == 1) = s.flag := by unfold RD.flag; rw [Bool.eq_iff_iff, beq_iff_eq, beq_iff_eq]; omega
 by_cases h1 : 1 < s.byte
 ·have hd : decide (1 < (s.byte : Int)) = true := by simp; omega
  have hto : s.flagTo = RD.spoilt := by unfold RD.flagTo; rw [if_pos h1]
  rw [hto]
  go_enter func122, ntmps122
  go_wp2_with fail
  refine (x8T w base F p s h hB).mono ?_
  rintro e w1 ⟨rfl, F1, r1, o1, f1⟩
  go_wp2_with fail
  refine (x4X w1 base F1 p _ r1).mono ?_
  rintro e w2 ⟨rfl, r2⟩
  go_wp2
  go_ret
  exact ⟨rfl, r2.after o1 f1⟩
 ·have hd : decide (1 < (s.byte : Int)) = false := by simp; omega
  have hto : s.flagTo = s.take 1 := by unfold RD.flagTo; rw [if_neg h1]
  rw [hto]
  go_enter func122, ntmps122
  go_wp2_with fail
  refine (x8T w base F p s h hB).mono ?_
  rintro e w1 ⟨rfl, r1⟩
  go_wp2
  go_ret
  exact ⟨rfl, r1⟩
theorem x16 (s : RD) : -9223372036854775808 <= s.num /\ s.num <= 9223372036854775807 := x8K _
theorem x6R (w : World) (base : Nat) (F : LN) (p : OA) (s : RD) (h : Srd w base F p s) (hB : base <= w.heap.size) (hs : s.bs.length <= 9000000) :
  Calls prog 187 #[.pointer p] w fun e w' => ∃ v F', e = .returned v /\ Own w' w.heap.size v s.bytes.length s.bytes /\ Srd w' base F' p s.bytesTo /\ Only (heads p) w w' /\ (∀ k ∈ F', k ∈ F) /\ (∀ b ∈ s.bytes, b < 256) /\ (∀ k, v.ownBlock = some k -> k ∉ F') := by
 have hgot : s.bytes.length <= 10000000 := by have := RD.got_le (s.take 8) s.num; have := RD.take_le s 8; unfold RD.bytes; omega
 have hlt := RD.got_lt (RD.take_good h.good 8) s.num
 have hFu := h.under
 go_enter func187, ntmps187
 go_wp2_with fail
 refine (x1P w base F p s h hB).mono ?_
 rintro e w1 ⟨rfl, F1, r1, o1, f1⟩
 go_wp2_with fail
 refine (x40 w1 base F1 p (s.take 8) s.num r1 (x16 s).1 (x16 s).2).mono ?_
 rintro e w2 ⟨A, c, rfl, r2, ⟨B, hb⟩, -, -⟩
 go_wp2_with fail
 refine (x0Q A _ c s.bytes w2 B hgot hb).mono ?_
 rintro e w3 ⟨v, rfl, h3, b3⟩
 go_wp2
 go_ret
 have R2 := r2.after o1 f1
 obtain ⟨F3, q1, q2, q3⟩ := R2
 have hq2 : Only (heads p) w w2 := q2
 refine ⟨v, F3, rfl, h3.weaken q2.size, q1.below b3, q2.trans (kO b3 _) (kF _ _), q3, hlt, fun k hk hm => ?_⟩
 have h4 := (kD h3 k hk).1
 have h5 := q1.under k hm
 omega
theorem x8I (w : World) (base : Nat) (F : LN) (p : OA) (s : RD) (h : Srd w base F p s) (hB : base <= w.heap.size) :
  Calls prog 186 #[.pointer p] w fun e w' => e = .returned (.string (strOf s.bytes)) /\ Srto w base F p s.bytesTo w' := by
 go_enter func186, ntmps186
 go_wp2_with fail
 refine (x1P w base F p s h hB).mono ?_
 rintro e w1 ⟨rfl, F1, r1, o1, f1⟩
 go_wp2_with fail
 refine (x40 w1 base F1 p (s.take 8) s.num r1 (x16 s).1 (x16 s).2).mono ?_
 rintro e w2 ⟨A, c, rfl, r2, ⟨B, hb⟩, -, -⟩
 have hcv := x4C (P := prog) hb c 35 9 5 underlying35 underlying5 underlying9
 go_wp2
 go_ret
 exact ⟨rfl, r2.after o1 f1⟩
theorem xH9 (A : OA) (n c : Nat) (bs : LN) (w : World) (B : Nat) (hn : n <= 9000000) (hb : Bytes w B A n bs) :
  Calls prog 120 #[.slice A n c] w fun e w' => ∃ g F, e = .returned (.pointer (some ⟨g, 0, none⟩)) /\ Srd w' w.heap.size F (some ⟨g, 0, none⟩) ⟨bs, false⟩ /\ Below w.heap.size w w' := by
 go_enter func120, ntmps120
 go_wp2_with fail
 refine (x0Q A n c bs w B (by omega) hb).mono ?_
 rintro e w1 ⟨v, rfl, h1, b1⟩
 obtain ⟨A1, c1, rfl, hc1, hc2, hA1⟩ := h1.form
 go_wp2
 go_ret
 have hl := hb.len
 subst hl
 refine ⟨w1.heap.size, w1.heap.size :: (A1.map Addr.block).toList, rfl, .inr ⟨_, rfl, A1, c1, rfl, kW _ _ _, ?_, hc1, hc2, b1.size, fun a ha => ?_, ⟨fun e => (by cases e), hb.2⟩⟩, b1.alloc b1.size _⟩
 ·exact ((h1.bytes hb.2).since (x0D _ _)).more (by simp)
 ·rcases hA1 with ⟨rfl, -⟩ | ⟨g, rfl, hg1, hg2⟩
  ·cases ha
  ·injection ha with ha
   subst ha
   exact ⟨hg1, kL hg2 (by simp), Nat.ne_of_lt hg2⟩
def tkA : Nat -> RD -> AL -> Option (AL × RD)
 | 0, s, a => some (a, s)
 | k + 1, s, a => if isNameB s.bytes = true /\ s.bytesTo.bytes.length <= 1024 then tkA k s.bytesTo.bytesTo (gput (keyB s.bytes) s.bytesTo.bytes a) else none
def freeB (fl : List Bool) (x y : Int) : Bool := decide (1 <= y) && decide (0 <= x) && decide (x.toNat + y.toNat <= fl.length) && ((fl.drop x.toNat).take y.toNat).all id
def tkE : Nat -> RD -> List Bool -> List (Nat × Nat) -> Option (List (Nat × Nat) × List Bool × RD)
 | 0, s, fl, es => some (es, fl, s)
 | k + 1, s, fl, es => if freeB fl s.num (s.take 8).num = true then tkE k ((s.take 8).take 8) (setR fl s.num.toNat (s.take 8).num.toNat false) (es ++ [(s.num.toNat, (s.take 8).num.toNat)]) else none
def tkO (s : RD) (M : Mod) : Option (Mod × RD) :=
 if isNameB s.bytes = true /\ s.bytesTo.bytes.length <= 65536 then
  (tkA s.bytesTo.bytesTo.num.toNat (s.bytesTo.bytesTo.take 8) []).bind fun q =>
   (tkE q.2.num.toNat (q.2.take 8) M.fl []).bind fun t =>
    if lens t.1 = needsB s.bytesTo.bytes then some (⟨M.bl, t.2.1, gput (keyB s.bytes) ⟨s.bytesTo.bytes, q.1, t.1⟩ M.ob⟩, t.2.2) else none
 else none
theorem x49 {α β : Type} {x : Option α} {f : α -> Option β} {a : α} {r : Option β} (h1 : x = some a) (h2 : f a = r) : x.bind f = r := by
 subst h1
 exact h2
theorem xGB {α β : Type} {x : Option α} {f : α -> Option β} (h1 : x = none) : x.bind f = none := by
 subst h1
 rfl
theorem x8Z {α : Type} {c : Prop} [Decidable c] {x : Option α} (h : x = none) : (if c then x else none) = none := by
 subst h
 split <;> rfl
def tkN : Nat -> RD -> Mod -> Option (Mod × RD)
 | 0, s, M => some (M, s)
 | k + 1, s, M =>
  match tkO s M with
  | none => none
  | some (M', s') => tkN k s' M'
def flS (s : RD) : Nat -> RD × List Bool
 | 0 => (s, flags8)
 | k + 1 => ((flS s k).1.flagTo, (flS s k).2.set k (flS s k).1.flag)
def tkP (bs : LN) : Option Mod :=
 if 0 <= (⟨bs, false⟩ : RD).num /\ (⟨bs, false⟩ : RD).num <= 65536 then
  (tkN (flS ((⟨bs, false⟩ : RD).take 8) 8).1.num.toNat ((flS ((⟨bs, false⟩ : RD).take 8) 8).1.take 8) ⟨(flS ((⟨bs, false⟩ : RD).take 8) 8).2, List.replicate (⟨bs, false⟩ : RD).num.toNat true, []⟩).map (·.1)
 else none
theorem xDN {s' : RD} (h1 : 0 <= (⟨bs, false⟩ : RD).num /\ (⟨bs, false⟩ : RD).num <= 65536) (h : tkN (flS ((⟨bs, false⟩ : RD).take 8) 8).1.num.toNat ((flS ((⟨bs, false⟩ : RD).take 8) 8).1.take 8) ⟨(flS ((⟨bs, false⟩ : RD).take 8) 8).2, List.replicate (⟨bs, false⟩ : RD).num.toNat true, []⟩ = some (M, s')) : tkP bs = some M := by
 unfold tkP
 rw [if_pos h1, h]
 rfl
theorem xP9 (h : tkN (flS ((⟨bs, false⟩ : RD).take 8) 8).1.num.toNat ((flS ((⟨bs, false⟩ : RD).take 8) 8).1.take 8) ⟨(flS ((⟨bs, false⟩ : RD).take 8) 8).2, List.replicate (⟨bs, false⟩ : RD).num.toNat true, []⟩ = none) : tkP bs = none := by
 unfold tkP
 rw [h]
 split <;> rfl
theorem xLS (h1 : ¬ (0 <= (⟨bs, false⟩ : RD).num /\ (⟨bs, false⟩ : RD).num <= 65536)) : tkP bs = none := by
 unfold tkP
 rw [if_neg h1]
theorem xDV {s3 s4 : RD} {a : AL} {e : List (Nat × Nat)} (h1 : isNameB s.bytes = true /\ s.bytesTo.bytes.length <= 65536) (hA : tkA s.bytesTo.bytesTo.num.toNat (s.bytesTo.bytesTo.take 8) [] = some (a, s3)) (hE : tkE s3.num.toNat (s3.take 8) M.fl [] = some (e, fl, s4)) (hl : lens e = needsB s.bytesTo.bytes) : tkO s M = some (⟨M.bl, fl, gput (keyB s.bytes) ⟨s.bytesTo.bytes, a, e⟩ M.ob⟩, s4) :=
  (if_pos h1).trans (x49 hA (x49 hE (if_pos hl)))
theorem xD5 (h1 : ¬ (isNameB s.bytes = true /\ s.bytesTo.bytes.length <= 65536)) : tkO s M = none := if_neg h1
theorem xOG (hA : tkA s.bytesTo.bytesTo.num.toNat (s.bytesTo.bytesTo.take 8) [] = none) : tkO s M = none :=
  x8Z (xGB hA)
theorem xOM {s3 : RD} {a : AL} (hA : tkA s.bytesTo.bytesTo.num.toNat (s.bytesTo.bytesTo.take 8) [] = some (a, s3)) (hE : tkE s3.num.toNat (s3.take 8) M.fl [] = none) : tkO s M = none :=
  x8Z (x49 hA (xGB hE))
theorem xOH {s3 s4 : RD} {a : AL} {e : List (Nat × Nat)} (hA : tkA s.bytesTo.bytesTo.num.toNat (s.bytesTo.bytesTo.take 8) [] = some (a, s3)) (hE : tkE s3.num.toNat (s3.take 8) M.fl [] = some (e, fl, s4)) (hl : lens e ≠ needsB s.bytesTo.bytes) : tkO s M = none :=
  x8Z (x49 hA (x49 hE (if_neg hl)))
theorem xEP {s' : RD} {M' : Mod} (h : tkO s M = some (M', s')) : tkN (k + 1) s M = tkN k s' M' := by
  rw [tkN, h]
theorem xLT (h : tkO s M = none) : tkN (k + 1) s M = none := by
  rw [tkN, h]
theorem x4P {x y : Int} : freeB fl x y = true ↔ ∃ a b : Nat, x = a /\ y = b /\ 1 <= b /\ AllR fl a b true := by
 unfold freeB
 simp only [Bool.and_eq_true, decide_eq_true_eq, all_eq_true, id]
 constructor
 ·rintro ⟨⟨⟨h1, h2⟩, h3⟩, h4⟩
  exact ⟨x.toNat, y.toNat, by omega, by omega, by omega, (x6A h3 true).1 h4⟩
 ·rintro ⟨a, b, rfl, rfl, h1, h2⟩
  refine ⟨⟨⟨by omega, by omega⟩, by simpa using h2.1⟩, ?_⟩
  simpa using (x6A h2.1 true).2 h2
theorem RD.got_used {n : Int} (h : 1 <= (s.got n).length) : s.bad = false /\ (s.take n).bs.length + (s.got n).length = s.bs.length := by
 unfold RD.got RD.take at *
 split at h
 ·rename_i hf
  simp only [hf, if_true, length_drop, length_take]
  simp only [RD.fits, Bool.and_eq_true, Bool.not_eq_true', decide_eq_true_eq] at hf
  refine ⟨hf.1.1, ?_⟩
  omega
 ·simp at h
theorem RD.take_ok {n : Int} (h : (s.take n).bad = false) : s.fits n = true := by
 unfold RD.take at h
 split at h
 ·assumption
 ·simp [RD.spoilt] at h
theorem RD.take8_used (h : (s.take 8).bad = false) : (s.take 8).bs.length + 8 = s.bs.length := by
 have hf := RD.take_ok h
 unfold RD.take
 simp only [hf, if_true, length_drop]
 simp only [RD.fits, Bool.and_eq_true, Bool.not_eq_true', decide_eq_true_eq] at hf
 omega
theorem RD.bytes_used (h : 1 <= s.bytes.length) : s.bytesTo.bs.length + 9 <= s.bs.length := by
 obtain ⟨h1, h2⟩ := RD.got_used h
 have h3 := RD.take8_used h1
 unfold RD.bytesTo
 unfold RD.bytes at h
 omega
theorem RD.bytesTo_le (s : RD) : s.bytesTo.bs.length <= s.bs.length := kT (RD.take_le _ _) (RD.take_le _ _)
theorem x95 (h : isNameB bs = true) : 1 <= bs.length /\ bs.length <= 32 := by
 simp only [isNameB, Bool.and_eq_true, decide_eq_true_eq] at h
 exact h.1
def Readers (w : World) (G : LN) : Prop := ∀ k ∈ G, ∃ cs, Blk w k 259 cs
theorem Srd.readers {base : Nat} {F : LN} {p : OA} (h : Srd w base F p s) : Readers w (heads p) := fun k hk => by
 rcases h with ⟨rfl, _, _⟩ | ⟨g, rfl, A, c, rfl, h1, _⟩
 ·cases hk
 ·simp [heads] at hk
  subst hk
  exact ⟨_, h1⟩
theorem ObAt.rd {go : Nat} (h : ObAt w go mb c ce D E kv o) (ho : Only G w w') (hG : Readers w G) : ObAt w' go mb c ce D E kv o :=
 h.only ho (fun k hk _ => by
  obtain ⟨cs, hb⟩ := hG k hk
  exact ⟨Odd.blk hb (by decide), Odd.blk hb (by decide), Odd.blk hb (by decide)⟩) (fun hm => by
  obtain ⟨cs, hb⟩ := hG _ hm
  exact h.map.ne_blk hb rfl)
theorem StAt.rd (h : StAt w gs ms gp r c A bl fl kv) (ho : Only G w w') (hG : Readers w G) : StAt w' gs ms gp r c A bl fl kv := by
 have hn : ∀ {k : Nat} {t : TypeId} {cs : Array Value}, Blk w k t cs -> t ≠ 259 -> k ∉ G := fun {k t cs} hb ht hm => by
  obtain ⟨cs', hb'⟩ := hG k hm
  exact hb.ne_ hb' ht rfl
 refine ⟨h.blk.of (ho.block _ h.blk.lt (hn h.blk (by decide))), h.len, h.map.of (ho.block _ h.map.lt fun hm => ?_), ⟨h.sp.blk.of (ho.block _ h.sp.blk.lt (hn h.sp.blk (by decide))), h.sp.cap, h.sp.lim, ?_⟩, h.ne⟩
 ·obtain ⟨cs, hb⟩ := hG _ hm
  exact h.map.ne_blk hb rfl
 ·rcases h.sp.row with e | ⟨e, cs, hb, hc⟩
  ·exact .inl e
  ·exact .inr ⟨e, cs, hb.of (ho.block _ hb.lt (hn hb (by decide))), hc⟩
theorem ObAt.attr {go : Nat} (h : ObAt w go mb c ce D E kv o) {k : Key} {v : Value} (hv : RowR w 0 [] v bs) (hm : SMap prog 9 w' mb (aput k v kv)) (ho : Only [mb] w w') : ObAt w' go mb c ce D E (aput k v kv) {o with a := gput k bs o.a} := by
 have hod : ∀ (e : TypeId), ∀ k ∈ [mb], Odd w e k := fun e k hk => by simp at hk; subst hk; exact Odd.map h.map
 refine ⟨h.blk.of (ho.block _ h.blk.lt fun hk => by simp at hk; exact h.map.ne_blk h.blk hk.symm), x0N h.dat ho (hod _), h.ok, hm, ?_, x0N h.ext ho (hod _)⟩
 have hr : Rel2 (AttrR w' []) kv o.a := h.att.imp fun a b hr => ⟨hr.1, hr.2.only ho fun k hk => .inr (hod _ k hk)⟩
 exact hr.put AttrR.key ⟨rfl, hv.only ho fun k hk => .inr (hod _ k hk)⟩
def TkATo (w : World) (base g go mb c ce : Nat) (D E : OA) (o : Ob) (F : LN) (s : RD) (e : Ending) (w' : World) : Prop :=
  Only [g, mb] w w' /\ ((tkA s.num.toNat (s.take 8) o.a = none /\ e = .returned (.bool false)) ∨ ∃ a' s' kv' F', tkA s.num.toNat (s.take 8) o.a = some (a', s') /\ e = .returned (.bool true) /\ ObAt w' go mb c ce D E kv' {o with a := a'} /\ Srd w' base F' (some ⟨g, 0, none⟩) s' /\ (∀ k ∈ F', k ∈ F) /\ s'.bs.length <= s.bs.length)
theorem xK3 {base go : Nat} {F : LN} (hO : ObAt w go mb c ce D E kv o) (hR : Srd w base F (some ⟨g, 0, none⟩) s) (hB : base <= w.heap.size) (hs : s.bs.length <= 1000000) (ha : o.a.length <= 9000000) (hmF : mb ∉ F) :
  Calls prog 188 #[.pointer (some ⟨go, 0, none⟩), .pointer (some ⟨g, 0, none⟩)] w (TkATo w base g go mb c ce D E o F s) := by
 have HR := kH (x1P w base F (some ⟨g, 0, none⟩) s hR hB)
 have H0 := kH (kA hO (kA hR (kA hB (kA hs (kA ha hmF)))))
 obtain ⟨N, hN⟩ := kX s.num
 have hNr := x16 s
 have HT := kH (kA hN (RD.take_le s 8))
 rw [<- hN] at HR hNr
 clear hO hR hs ha hmF hN
 go_enter func188, ntmps188
 go_wp2_with fail
 refine HR.out.mono ?_
 rintro e w1 ⟨rfl, F1, r1, o1, f1⟩
 have O1 := H0.out.1.rd o1 H0.out.2.1.readers
 have H1 := kH (kA o1 (kA f1 (kA r1 O1)))
 clear r1 o1 f1 O1 HR
 go_wp2_with fail
 go_loopw [9] (fun iv wr => ∃ (k : Nat) (a : AL) (sk : RD) (kvk : KV) (Fk : LN), iv = .int .i64 k /\ (k = 0 ∨ (k : Int) <= N) /\ tkA s.num.toNat (s.take 8) o.a = tkA (N.toNat - k) sk a /\ ObAt wr go mb c ce D E kvk {o with a := a} /\ Srd wr base Fk (some ⟨g, 0, none⟩) sk /\ (∀ k ∈ Fk, k ∈ F) /\ Only [g, mb] w wr /\ a.length + sk.bs.length <= 18000000 /\ sk.bs.length <= s.bs.length) (fun iv _ => N.toNat - (intS iv).toNat)
 case atStart => exact ⟨0, o.a, s.take 8, kv, F1, rfl, .inl rfl, by rw [HT.out.1]; rfl, H1.out.2.2.2, H1.out.2.2.1, H1.out.2.1, H1.out.1.mono (fun k hk => by simp [heads] at hk; simp [hk]), by have := HT.out.2; have := H0.out.2.2.2.2.1; have := H0.out.2.2.2.1; omega, HT.out.2⟩
 case round =>
  obtain ⟨k, a, sk, kvk, Fk, rfl, hk, htk, hOk, hRk, hFk, hon, hcnt, hle⟩ := hrel
  have hsz := hon.size
  have hBk : base <= wr.heap.size := kT H0.out.2.2.1 hsz
  by_cases hlt : (k : Int) < N
  -- {A
  ·have hdk : decide ((k : Int) < N) = true := decide_eq_true hlt
   have hwk := wK k (by omega)
   obtain ⟨j, hj⟩ : ∃ j, N.toNat - k = j + 1 := ⟨N.toNat - k - 1, by omega⟩
   have hj2 : N.toNat - (k + 1) = j := by omega
   rw [hj, tkA] at htk
   have HX := kH (x8I wr base Fk (some ⟨g, 0, none⟩) sk hRk hBk)
   have HK := kH (kA htk (kA hOk (kA hRk (kA hFk (kA hon (kA hcnt (kA hle (kA hj2 hBk))))))))
   have hnsm : ∀ b ∈ sk.bytes, b < 256 := RD.got_lt (RD.take_good hRk.good 8) _
   have hnl : sk.bytes.length <= 1000000 := by have := RD.got_le (sk.take 8) sk.num; have := RD.take_le sk 8; have := H0.out.2.2.2.1; unfold RD.bytes; omega
   have HNS := kH (kA hnsm hnl)
   clear htk hOk hRk hFk hon hcnt hle hj hj2 hnsm hnl hsz
   go_wp2_with fail
   refine HX.out.mono ?_
   rintro e w2 ⟨rfl, F2, r2, o2, f2⟩
   have hle2 := RD.bytesTo_le sk
   have HY := kH (x6R w2 base F2 (some ⟨g, 0, none⟩) sk.bytesTo r2 (kT HK.out.2.2.2.2.2.2.2.2 o2.size) (by have := HK.out.2.2.2.2.2.2.1; have := H0.out.2.2.2.1; omega))
   have H2 := kH (kA r2 (kA o2 f2))
   clear r2 o2 f2 HX
   go_wp2_with fail
   refine HY.out.mono ?_
   rintro e w3 ⟨v, F3, rfl, hov, r3, o3, f3, hvs, -⟩
   obtain ⟨A3, c3, rfl, -⟩ := hov.form
   have HN := kH (x3Z sk.bytes HNS.out.1 HNS.out.2 w3)
   have H3 := kH (kA hov (kA r3 (kA o3 (kA f3 hvs))))
   clear hov r3 o3 f3 hvs HY
   go_wp2_with fail
   refine HN.out.mono ?_
   rintro e w4 ⟨rfl, hb4⟩
   have HB4 := kH hb4
   have hon4 : Only [g, mb] w w4 := by
    have e1 : Only [g, mb] wr w2 := H2.out.2.1.mono (fun k hk => by simp [heads] at hk; simp [hk])
    have e2 : Only [g, mb] w2 w3 := H3.out.2.2.1.mono (fun k hk => by simp [heads] at hk; simp [hk])
    exact ((HK.out.2.2.2.2.1.trans e1 (kF _ _)).trans e2 (kF _ _)).trans (kO hb4 _) (kF _ _)
   have HO4 := kH hon4
   obtain ⟨m, hm⟩ := kX sk.bytesTo.bytes.length
   have hm9 : m <= 9000000 := by
    have := RD.got_le (sk.bytesTo.take 8) sk.bytesTo.num
    have := RD.take_le sk.bytesTo 8
    have := HK.out.2.2.2.2.2.2.1
    have := H0.out.2.2.2.1
    have := RD.bytesTo_le sk
    rw [hm]
    unfold RD.bytes
    omega
   rw [<- hm]
   have HM := kH hm
   clear hb4 HN hon4 hm
   cases hnm : isNameB sk.bytes
   ·have hnone : tkA s.num.toNat (s.take 8) o.a = none := by rw [HK.out.1, hnm]; simp
    have HZ := kH hnone
    clear hnone hnm
    go_wp2
    go_ret
    exact ⟨HO4.out, .inl ⟨HZ.out, rfl⟩⟩
   ·by_cases hlen : m <= 1024
    ·have hd : decide ((1024 : Int) < (m : Int)) = false := decide_eq_false (by omega)
     have O4 : ObAt w4 go mb c ce D E kvk {o with a := a} := ((HK.out.2.1.rd H2.out.2.1 HK.out.2.2.1.readers).rd H3.out.2.2.1 H2.out.1.readers).below HB4.out
     have R4 := H3.out.2.1.below HB4.out
     have V4 : RowR w4 0 [] (.slice A3 m c3) sk.bytesTo.bytes := ⟨A3, c3, by rw [HM.out], by have := (H3.out.1.below HB4.out).weaken (kY _); rwa [<- HM.out] at this ⊢, H3.out.2.2.2.2, fun k hk hm => by cases hm⟩
     have c1 : w4.cell? ⟨go, 1, none⟩ = some (.map (some mb)) := O4.blk.cell 1
     have hkl : kvk.length = a.length := O4.att.len
     obtain ⟨w5, hrun, hm5, hg5, -⟩ := x2A (P := prog) underlying9 underlying134 O4.map (keyB sk.bytes) (by have := HNS.out.2; simp [keyB, maxLen]; omega) (by have := HK.out.2.2.2.2.2.1; rw [hkl]; simp only [maxLen]; omega) (.slice A3 m c3)
     rw [x17] at hrun
     have ho5 : Only [mb] w4 w5 := (kU _ _).grown hg5 (fun g hg => .inl (by injection hg with hg; simp [hg]))
     have O5 := O4.attr V4 hm5 ho5
     have hF3 : ∀ k ∈ F3, k ∈ F := fun k hk => HK.out.2.2.2.1 k (H2.out.2.2 k (H3.out.2.2.2.1 k hk))
     have R5 : Srd w5 base F3 (some ⟨g, 0, none⟩) sk.bytesTo.bytesTo := R4.of ho5.size (fun k hk => ho5.block k (R4.under k hk) (fun hm => by simp at hm; subst hm; exact H0.out.2.2.2.2.2 (hF3 _ hk)))
     have hu1 := RD.bytes_used (s := sk) (x95 hnm).1
     have hu2 := RD.bytesTo_le sk.bytesTo
     have hfin : tkA s.num.toNat (s.take 8) o.a = tkA (N.toNat - (k + 1)) sk.bytesTo.bytesTo (gput (keyB sk.bytes) sk.bytesTo.bytes a) := by
      rw [HK.out.1, HK.out.2.2.2.2.2.2.2.1, if_pos ⟨hnm, by rw [<- HM.out]; exact hlen⟩]
     have hgl := x5U (keyB sk.bytes) sk.bytesTo.bytes a
     have hc5 := HK.out.2.2.2.2.2.1
     have hc6 := HK.out.2.2.2.2.2.2.1
     have HFIN := kH (kA hfin (kA O5 (kA R5 (kA hF3 (kA (HO4.out.trans (ho5.mono (fun k hk => by simp at hk; simp [hk])) (kF _ _)) (kA (show (gput (keyB sk.bytes) sk.bytesTo.bytes a).length + sk.bytesTo.bytesTo.bs.length <= 18000000 by omega) (show sk.bytesTo.bytesTo.bs.length <= s.bs.length by omega)))))))
     clear hfin O5 R5 hF3 ho5 hm5 hg5 V4 R4 O4 hkl hgl hu1 hu2 hc5 hc6 hnm
     go_wp2_with fail
     go_roundw
     case rel => exact ⟨k + 1, _, _, _, F3, by go_num, .inr (by omega), HFIN.out.1, HFIN.out.2.1, HFIN.out.2.2.1, HFIN.out.2.2.2.1, HFIN.out.2.2.2.2.1, HFIN.out.2.2.2.2.2.1, HFIN.out.2.2.2.2.2.2⟩
     case measure => simp [intS]; omega
    ·have hd : decide ((1024 : Int) < (m : Int)) = true := decide_eq_true (by omega)
     have hnone : tkA s.num.toNat (s.take 8) o.a = none := by rw [HK.out.1, if_neg (fun h => hlen (by rw [HM.out]; exact h.2))]
     have HZ := kH hnone
     clear hnone hnm
     go_wp2
     go_ret
     exact ⟨HO4.out, .inl ⟨HZ.out, rfl⟩⟩
  -- A}
  ·have hdk : decide ((k : Int) < N) = false := decide_eq_false hlt
   have hj : N.toNat - k = 0 := by omega
   rw [hj, tkA] at htk
   have HFIN := kH (show TkATo w base g go mb c ce D E o F s (.returned (.bool true)) wr from ⟨hon, .inr ⟨a, sk, kvk, Fk, htk, rfl, hOk, hRk, hFk, hle⟩⟩)
   clear htk hOk hRk hFk hon hcnt hle
   go_wp2
   go_ret
   exact HFIN.out
theorem xFS {e : Int × Int} {ns : List (Nat × Nat)} (h : TurnOk fl [e] false ns) : freeB fl e.1 e.2 = true /\ setA fl ns false = setR fl e.1.toNat e.2.toNat false := by
 obtain ⟨h1, h2, h3⟩ := h
 match ns, h1, h2, h3 with
 | [], h1, _, _ => simp [natE] at h1
 | [q], h1, h2, h3 =>
  simp only [natE, map_cons, map_nil, List.cons.injEq, and_true] at h1
  subst h1
  exact ⟨x4P.2 ⟨q.1, q.2, rfl, rfl, h2 q (by simp), h3.1⟩, rfl⟩
 | _ :: _ :: _, h1, _, _ => simp [natE] at h1
theorem xF9 {e : Int × Int} (h : freeB fl e.1 e.2 = true) : ∃ ns, TurnOk fl [e] false ns := by
 obtain ⟨a, b, h1, h2, h3, h4⟩ := x4P.1 h
 refine ⟨[(a, b)], ?_, fun q hq => ?_, h4, trivial⟩
 ·simp [natE, <- h1, <- h2]
 ·simp at hq; subst hq; exact h3
theorem xHT (x : Int × Int) (hI : InI x) (h : SAt w g r A c fl (cnt fl)) (hgr : g ≠ r) (E : OA) (c' : Nat) (hc' : 1 <= c') (hR : ExtR w B E [x]) (hB : B <= w.heap.size)
 (hfar : ∀ ad, E = some ad -> ad.block ∉ foot g r fl) :
    Calls prog 221 #[.pointer (some ⟨g, 0, none⟩), .slice E 1 c'] w fun e w' => Only (foot g r fl) w w' /\ ((freeB fl x.1 x.2 = true /\ e = .returned .nilIface /\ SAt w' g r A c (setR fl x.1.toNat x.2.toNat false) (cnt (setR fl x.1.toNat x.2.toNat false))) ∨ (freeB fl x.1 x.2 = false /\ e = .returned (errV 1) /\ SAt w' g r A c fl (cnt fl))) := by
  have post : ∀ (r' : Nat), (fl = [] ∨ r' = r) -> ∀ e w', TurnTo w g r' c A fl [x] false e w' -> Only (foot g r fl) w w' -> Only (foot g r fl) w w' /\ ((freeB fl x.1 x.2 = true /\ e = .returned .nilIface /\ SAt w' g r A c (setR fl x.1.toNat x.2.toNat false) (cnt (setR fl x.1.toNat x.2.toNat false))) ∨ (freeB fl x.1 x.2 = false /\ e = .returned (errV 1) /\ SAt w' g r A c fl (cnt fl))) := by
    rintro r' hr' e w' ⟨ho, ⟨ns, hns, rfl, hs⟩ | ⟨hno, rfl, hs⟩⟩ hof
    · obtain ⟨h1, h2⟩ := xFS hns
      have hlen := hns.2.2.len
      rw [h2] at hs hlen
      refine ⟨hof, .inl ⟨h1, rfl, ?_⟩⟩
      rcases hr' with e | e
      · exact hs.rest (eq_nil_of_length_eq_zero (by rw [hlen, e]; rfl))
      · subst e; exact hs
    · refine ⟨hof, .inr ⟨?_, rfl, ?_⟩⟩
      · cases hf : freeB fl x.1 x.2
        · rfl
        · obtain ⟨ns, h1⟩ := xF9 hf
          exact absurd h1 (hno ns)
      · rcases hr' with e | e
        · exact hs.rest e
        · subst e; exact hs
  have hI2 : ∀ e ∈ [x], InI e := fun e he => by simp at he; subst he; exact hI
  by_cases hf : fl = []
  · obtain ⟨eb, heb⟩ : ∃ eb, ∀ ad, E = some ad -> ad.block = eb := by
      cases E with
      | none => exact ⟨0, fun ad e => by cases e⟩
      | some a => exact ⟨a.block, fun ad e => by injection e with e; rw [e]⟩
    have := xA4 (r := w.heap.size + g + eb + 1) [x] hI2 (h.rest hf) (by omega) E c' hc' hR hB (fun ad e => ⟨by have := hfar ad e; simp [foot, hf] at this; exact this, by have := heb ad e; omega⟩) (by simp)
    refine this.mono fun e w' ht => post _ (.inl hf) e w' ht ?_
    subst hf
    exact ⟨ht.1.os, ht.1.tape, ht.1.output, ht.1.size, fun i hi hn => ht.1.block i hi (by simp [foot] at hn ⊢; omega)⟩
  · have := xA4 [x] hI2 h hgr E c' hc' hR hB (fun ad e => by have := hfar ad e; simp [foot, hf] at this; exact this) (by simp)
    exact this.mono fun e w' ht => post _ (.inr rfl) e w' ht (x3U hf ht.1)
theorem ObAt.more {go ce' : Nat} {E' : OA} (h : ObAt w go mb c ce D E kv o) {es : List (Nat × Nat)} (hb : Blk w' go 137 (objC D o.d.length c (.map (some mb)) E' es.length ce')) (he : OwnE w' 0 (.slice E' es.length ce') (natE es)) (ho : Only (go :: rowOf (.slice E o.e.length ce)) w w') : ObAt w' go mb c ce' D E' kv {o with e := es} := by
 have hod : ∀ (e : TypeId), e ≠ 137 -> e ≠ 198 -> ∀ k ∈ go :: rowOf (.slice E o.e.length ce), Odd w e k := fun e h1 h2 k hk => by
  rcases kQ hk with rfl | hk
  ·exact Odd.blk h.blk h1.symm
  ·obtain ⟨cs, hb⟩ := x0J h.ext (x00.1 hk)
   exact Odd.blk hb h2.symm
 refine ⟨hb, x0N h.dat ho (hod _ (by decide) (by decide)), h.ok, h.map.of (ho.block _ h.map.lt fun hm => ?_), h.att.imp fun a b hr => ⟨hr.1, hr.2.only ho fun k hk => .inr (hod _ (by decide) (by decide) k hk)⟩, he⟩
 rcases kQ hm with e | hm
 ·exact h.map.ne_blk h.blk e
 ·obtain ⟨cs, hb⟩ := x0J h.ext (x00.1 hm)
  exact h.map.ne_blk hb rfl
theorem ObAt.foot {c0 : Nat} {go : Nat} (h : ObAt w go mb c ce D E kv o) (hs : SAt w gp r A c0 fl left) (ho : Only (foot gp r fl) w w') : ObAt w' go mb c ce D E kv o :=
 h.only ho (fun k hk _ => ⟨hs.foot_odd (by decide) (by decide) hk, hs.foot_odd (by decide) (by decide) hk, hs.foot_odd (by decide) (by decide) hk⟩) (fun hm => by
  obtain ⟨t, cs, hb, _⟩ := hs.foot_typed hm
  exact h.map.ne_blk hb rfl)
theorem StAt.c9_of (h : StAt w gs ms gp r c A bl fl kv) (hb : Blk w' gs 122 (stC ms bl gp)) : w'.cell? ⟨gs, 9, none⟩ = some (.pointer (some ⟨gp, 0, none⟩)) := by
 have h9 := h.c9
 rw [h.blk.cell] at h9
 rw [hb.cell]
 exact h9
theorem StAt.typed (h : StAt w gs ms gp r c A bl fl kv) (ho : Only G w w') (hG : ∀ k ∈ G, ∃ t cs, Blk w k t cs /\ t ≠ 122 /\ t ≠ 190 /\ t ≠ 4) : StAt w' gs ms gp r c A bl fl kv := by
 refine ⟨h.blk.of (ho.block _ h.blk.lt fun hm => ?_), h.len, h.map.of (ho.block _ h.map.lt fun hm => ?_), ⟨h.sp.blk.of (ho.block _ h.sp.blk.lt fun hm => ?_), h.sp.cap, h.sp.lim, ?_⟩, h.ne⟩
 ·obtain ⟨t, cs, hb, h1, h2, h3⟩ := hG _ hm
  exact h.blk.ne_ hb h1.symm rfl
 ·obtain ⟨t, cs, hb, h1, h2, h3⟩ := hG _ hm
  exact h.map.ne_blk hb rfl
 ·obtain ⟨t, cs, hb, h1, h2, h3⟩ := hG _ hm
  exact h.sp.blk.ne_ hb h2.symm rfl
 ·rcases h.sp.row with e | ⟨e, cs, hb, hc⟩
  ·exact .inl e
  ·refine .inr ⟨e, cs, hb.of (ho.block _ hb.lt fun hm => ?_), hc⟩
   obtain ⟨t, cs', hb', h1, h2, h3⟩ := hG _ hm
   exact hb.ne_ hb' h3.symm rfl
def TkETo (w0 : World) (base g go mb c gs ms gp r c1 : Nat) (D A : OA) (bl fl : List Bool) (kvs kv : KV) (o : Ob) (F : LN) (s : RD) (e : Ending) (w' : World) : Prop :=
  Only (g :: foot gp r fl) w0 w' /\ ((tkE s.num.toNat (s.take 8) fl [] = none /\ e = .returned (.bool false)) ∨ ∃ es fl' s' ce' E' F', tkE s.num.toNat (s.take 8) fl [] = some (es, fl', s') /\ e = .returned (.bool (decide (lens es = needsB o.d))) /\ StAt w' gs ms gp r c1 A bl fl' kvs /\ fl'.length = fl.length /\ ObAt w' go mb c ce' D E' kv {o with e := es} /\ Srd w' base F' (some ⟨g, 0, none⟩) s' /\ (∀ k ∈ F', k ∈ F) /\ s'.bs.length <= s.bs.length)
def TwoE (g1 g2 : Nat) (t : TypeId) (cs : Array Value) (x : Int × Int) (w : World) : Prop := Blk w g1 t cs /\ Blk w g2 198 #[.int .i64 x.1, .int .i64 x.2]
theorem xEE {x : Int × Int} (h : Blk w g 198 #[.int .i64 x.1, .int .i64 x.2]) : (loadVar 198 ⟨g, 0, none⟩).run prog w = .ok (.agg #[.int .i64 x.1, .int .i64 x.2]) w :=
  x4O w ⟨g, 0, none⟩ x (h.cell 0) (h.cell 1)
end Go.Proofs.YtpogpajjemaagaaGreatDoor
