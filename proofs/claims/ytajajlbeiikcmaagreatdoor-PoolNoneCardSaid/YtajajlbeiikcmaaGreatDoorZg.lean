/-
 An operation under way tells something, becomes an object or none. Conditions: it lies where it is said to.
-/
import Derived.Test.YtajajlbeiikcmaaGreatDoorZf
import Derived.BigQuiet
import Derived.Maps.OwnSet
import Derived.Lib.SliceRun
namespace Go.Proofs.YtajajlbeiikcmaaGreatDoor
set_option linter.unusedSimpArgs false
set_option linter.unusedVariables false
set_option maxRecDepth 100000
section
open Go.RowKit Go.BigFrame
theorem xIZ : (Tryz.prog.info? 35).map (fun i => (i.zero, i.size, i.bytes)) = some (some (.slice none 0 0), 1, 24) := by kernel_rfl
theorem xHN (A : Option Addr) (n c : Nat) (w : World) : (Instr.buildSlice 42 1 #[(0, .slice A n c)]).run Tryz.prog w = .ok (.slice (some ⟨w.heap.size, 0, none⟩) 1 1) (w.alloc (.cells #[.slice A n c] 35)) :=
  x1A (size := 1) Tryz.underlying42 (by kernel_rfl) (by omega) (by omega) rfl w
def StepTo (w : World) (B gw gs : Nat) (W : Wk) (v : Value) (e : Ending) (w' : World) : Prop := e = .returned v /\ Wkd w' B gw gs W /\ Below B w w'
set_option maxHeartbeats 2000000 in
theorem xDW {w : World} {B gw gs c ce ct : Nat} {D E T : Option Addr} {av : Value} {kv : KV} {tv : List Value} {W : Wk} (h : WkAt w B gw gs c ce ct D E T av kv tv W) (hB : B <= w.heap.size) (ht : W.told.length <= 1000000)
  {Bx nx cx : Nat} {Ax : Option Addr} {bs : List Nat} (hx : Bytes w Bx Ax bs.length bs) (hn : bs.length <= 1000000) :
  Calls Tryz.prog 171 #[.pointer (some ⟨gw, 0, none⟩), .slice Ax bs.length cx] w (fun e w' => StepTo w B gw gs {W with told := W.told ++ [bs]} (.tuple #[]) e w' /\ ∀ k cs, Blk w k 52 cs -> w'.heap[k]? = w.heap[k]?) := by
 have HH := kH h
 have HX := kH hx
 have HC : Hid (∀ w', Blk w' gw 139 (workC D W.d.length c av E W.e.length ce W.th T W.told.length ct gs) -> w'.cell? ⟨gw, 4, none⟩ = some (.slice T W.told.length ct)) := kH fun w' h => h.cell 4
 have hS : Blk w.drew gw 139 (workC D W.d.length c av E W.e.length ce W.th T W.told.length ct gs) := h.blk.drew
 obtain ⟨i0, hi0, hz0, hz1, hz2⟩ := info_parts xIZ
 clear h hx
 go_enter Tryz.func171, Tryz.ntmps171
 go_upto_region 0 with (fail)
 refine x09 (fun w' => Blk w' gw 139 (workC D W.d.length c av E W.e.length ce W.th T W.told.length ct gs)) 11 (by kernel_rfl) ?_
 refine tL (i := 0) (v := .pointer (some ⟨gw, 0, none⟩)) rfl rfl (by kernel_rfl) (by rfl) (fun w hw => by kernel_rfl) hS ?_
 simp only [Act.put, nB, nC, nD, nE, nF, nG]
 refine tL (i := 1) (v := .pointer (some ⟨gw, 0, none⟩)) rfl rfl (by kernel_rfl) (by rfl) (fun w hw => by kernel_rfl) hS ?_
 simp only [Act.put, nB, nC, nD, nE, nF, nG]
 refine tL (i := 2) (v := .pointer (some ⟨gw, 0, none⟩)) rfl rfl (by kernel_rfl) (by rfl) (fun w hw => by kernel_rfl) hS ?_
 simp only [Act.put, nB, nC, nD, nE, nF, nG]
 refine tL (i := 3) (v := .pointer (some ⟨gw, 4, none⟩)) rfl rfl (by kernel_rfl) (by rfl) (fun w hw => by go_simp) hS ?_
 simp only [Act.put, nB, nC, nD, nE, nF, nG]
 refine tL (i := 4) (v := .slice T W.told.length ct) rfl rfl (by kernel_rfl) (by rfl) (fun w hw => by have q := HC.out w hw; go_simp) hS ?_
 simp only [Act.put, nB, nC, nD, nE, nF, nG]
 refine tL (i := 5) (v := .slice Ax bs.length cx) rfl rfl (by kernel_rfl) (by rfl) (fun w hw => by kernel_rfl) hS ?_
 simp only [Act.put, nB, nC, nD, nE, nF, nG]
 refine x01 (j := 6) (by kernel_rfl) rfl (by rfl) ?_
 simp only [Act.put, nB, nC, nD, nE, nF, nG]
 refine x03 (by kernel_rfl) (x0P Ax bs.length cx bs w.drew Bx (by omega) HX.out.drew) ?_
 rintro e w1 ⟨v, rfl, hv, hb1⟩
 have hb1' : Below w.heap.size w w1 := x0K hb1
 have h1 := HH.out.below hb1'
 refine ⟨_, rfl, h1.blk, ?_⟩
 simp only [Act.put, nB, nC, nD, nE, nF, nG]
 obtain ⟨A1, c1, rfl, -⟩ := hv.form
 have hbt := xHN A1 bs.length c1
 refine x01 (j := 7) (by kernel_rfl) rfl (by rfl) ?_
 simp only [Act.put, nB, nC, nD, nE, nF, nG]
 refine x0B (v := .slice (some ⟨w1.heap.size, 0, none⟩) 1 1) (w' := w1.alloc (.cells #[.slice A1 bs.length c1] 35)) (by go_simp) ⟨h1.blk.alloc _, ?_⟩
 simp only [Act.put, nB, nC, nD, nE, nF, nG]
 have hb2 : Below w1.heap.size w1 (w1.alloc (.cells #[.slice A1 bs.length c1] 35)) := (Below.refl _ _).alloc (Nat.le_refl _) _
 have h2 := h1.below hb2
 refine x01 (j := 8) (by kernel_rfl) rfl (by rfl) ?_
 simp only [Act.put, nB, nC, nD, nE, nF, nG]
 have hz1' := hb1'.size
 have hz2' := hb2.size
 refine x18 _ (.tmp 8) (.tmp 11) 42 rfl B 35 i0 _ 1 24 Tryz.underlying42 hi0 hz0 hz1 hz2 rfl (by omega) (.slice T W.told.length ct) W.told.length tv rfl h2.tol _ (some ⟨w1.heap.size, 0, none⟩) 1 1 [.slice A1 bs.length c1] rfl (Reads.new w1 [.slice A1 bs.length c1] 35 (0, 0)) (by intro u hu; simp at hu; subst hu; rfl) (by simp only [maxLen]; omega) (by omega) (by omega) ?_
 intro v' w3 hown hgr hor
 have hg2 : gw ≠ 0 ∨ True := .inr trivial
 have hTg : some gw ≠ (Value.slice T W.told.length ct).ownBlock := fun e => by
  obtain ⟨cs, hb⟩ := x0G h2.tol e.symm
  exact h2.blk.ne_ hb (by decide) rfl
 have K3 := h2.blk.grown hgr hTg
 refine ⟨K3, ?_⟩
 simp only [Act.put, nB, nC, nD, nE, nF, nG]
 refine x01 (j := 9) (by kernel_rfl) rfl (by rfl) ?_
 simp only [Act.put, nB, nC, nD, nE, nF, nG]
 refine x0B (v := .pointer (some ⟨gw, 0, none⟩)) (w' := w3) (by go_simp) ⟨K3, ?_⟩
 simp only [Act.put, nB, nC, nD, nE, nF, nG]
 refine x01 (j := 10) (by kernel_rfl) rfl (by rfl) ?_
 simp only [Act.put, nB, nC, nD, nE, nF, nG]
 refine x0B (v := .pointer (some ⟨gw, 4, none⟩)) (w' := w3) (by kernel_rfl) ⟨K3, ?_⟩
 simp only [Act.put, nB, nC, nD, nE, nF, nG]
 obtain ⟨T2, ct2, rfl⟩ : ∃ T2 ct2, v' = .slice T2 (W.told.length + 1) ct2 := by
  rcases hown.2 with ⟨_, h0⟩ | ⟨g', cap', cur, e, _⟩
  ·omega
  ·exact ⟨_, _, e⟩
 refine x1V (by kernel_rfl) rfl (by rfl) (by kernel_rfl) ?_
 simp only [Act.put, nB, nC, nD, nE, nF, nG]
 refine x2L 42 (.tmp 14) (.tmp 12) (by rfl) gw 4 139 _ (.slice T2 (W.told.length + 1) ct2) (by rfl) (by rfl) K3 (by simp [workC]) (by kernel_rfl) rfl ?_
 refine NoPanic.normal ?_
 have hon1 : Only (gw :: rowOf (.slice T W.told.length ct)) w w3 := (((Only.of_below hb1' _).trans (Only.of_below hb2 []) (fun k hk => by cases hk))).grown hgr (fun g hg => .inl (by simp [x00, hg]))
 obtain ⟨w4, hw4⟩ : ∃ w4, w4 = w3.setCell ⟨gw, 4, none⟩ (.slice T2 (W.told.length + 1) ct2) := ⟨_, rfl⟩
 have hon4 : Only [gw] w3 w4 := by rw [hw4]; exact (Only.refl _ _).setCell (.inl (by simp)) _
 have hon : Only (gw :: rowOf (.slice T W.told.length ct)) w w4 := by rw [hw4]; exact hon1.setCell (.inl (by simp)) _
 have K4 : Blk w4 gw 139 ((workC D W.d.length c av E W.e.length ce W.th T W.told.length ct gs).setIfInBounds 4 (.slice T2 (W.told.length + 1) ct2)) := by rw [hw4]; exact K3.set_ 4 _
 rw [<- hw4]
 have hod : ∀ (e : TypeId), e ≠ 139 -> ∀ k ∈ [gw], Odd w3 e k := fun e hq k hk => by simp at hk; subst hk; exact Odd.blk K3 hq.symm
 have hrow : RowR w4 B (rowOf (.slice D W.d.length c)) (.slice A1 bs.length c1) bs := by
  have r1 : RowR w1 B (rowOf (.slice D W.d.length c)) (.slice A1 bs.length c1) bs := ⟨A1, c1, rfl, hv.weaken hB, HX.out.2, fun k hk hm => by
   have a1 := x0I hv k hk
   have a2 := x02 HH.out.dat k hm
   have a3 : w.drew.heap.size = w.heap.size := rfl
   omega⟩
  have r3 : RowR w3 B (rowOf (.slice D W.d.length c)) (.slice A1 bs.length c1) bs := (r1.below hb2).only (G := rowOf (.slice T W.told.length ct)) ((Only.refl _ _).grown hgr (fun g hg => .inl (by simp [x00, hg]))) (fun k hk => .inr (by
   obtain ⟨cs, hb⟩ := x0G h2.tol (x00.1 hk)
   exact Odd.blk hb (by decide)))
  exact r3.only hon4 (fun k hk => .inr (hod _ (by decide) k hk))
 have hfin : StepTo w B gw gs {W with told := W.told ++ [bs]} (.tuple #[]) (.returned (.tuple #[])) w4 := by
  refine ⟨rfl, HH.out.tells K4 hon (x0N hown hon4 (hod _ (by decide))) hrow, hon.below (fun k hk => ?_) hB⟩
  rcases List.mem_cons.1 hk with rfl | hk
  ·exact HH.out.gB
  ·exact x0I HH.out.tol k hk
 have hkeep : ∀ k cs, Blk w k 52 cs -> w4.heap[k]? = w.heap[k]? := fun k cs hk => hon.block k hk.lt fun hm => by
  rcases List.mem_cons.1 hm with e | hm
  ·subst e; exact hk.ne_ HH.out.blk (by decide) rfl
  ·obtain ⟨cs', hb'⟩ := x0G HH.out.tol (x00.1 hm)
   exact hk.ne_ hb' (by decide) rfl
 have HFIN := kH (kA hfin hkeep)
 clear hfin hkeep hrow hod K4 hon hon4 hon1 K3 hTg h2 h1 hown hb2 hb1 hb1' hv hS hw4
 go_wp2
 refine bodyPost_end (results_none rfl _ _ _) rfl ?_
 exact HFIN.out
set_option maxHeartbeats 2000000 in
theorem x99 {w : World} {B gw gs c ce ct : Nat} {D E T : Option Addr} {av : Value} {kv : KV} {tv : List Value} {W : Wk} (h : WkAt w B gw gs c ce ct D E T av kv tv W) (hB : B <= w.heap.size) (b : Bool) :
  Calls Tryz.prog 115 #[.pointer (some ⟨gw, 0, none⟩), .bool b] w (StepTo w B gw gs (becomeW W b) (.tuple #[])) := by
 have HH := kH h
 have c3 : w.cell? ⟨gw, 3, none⟩ = some (.bool W.th) := h.blk.cell 3
 have hmm := @run_makeMap Tryz.prog
 by_cases hth : W.th = b
 ·have hfin : StepTo w B gw gs (becomeW W b) (.tuple #[]) (.returned (.tuple #[])) w := ⟨rfl, by unfold becomeW; rw [if_pos hth]; exact ⟨_, _, _, _, _, _, _, _, _, h⟩, Below.refl _ _⟩
  have HFIN := kH hfin
  clear h hfin
  generalize W.th = th at *
  subst hth
  go_enter Tryz.func115, Tryz.ntmps115
  go_wp2
  refine bodyPost_end (results_none rfl _ _ _) rfl ?_
  exact HFIN.out
 ·have hne : (W.th == b) = false := by simpa using hth
  have ha : Below w.heap.size w (w.alloc (.map #[] 0)) := (Below.refl _ _).alloc (Nat.le_refl _) _
  have h1 := h.below ha
  have K1 : Blk (w.alloc (.map #[] 0)) gw 139 #[.slice D W.d.length c, av, .slice E W.e.length ce, .bool W.th, .slice T W.told.length ct, .pointer (some ⟨gs, 0, none⟩)] := h1.blk
  have M1 : SMap Tryz.prog 9 (w.alloc (.map #[] 0)) w.heap.size [] := SMap.new w
  have c2 : (w.alloc (.map #[] 0)).cell? ⟨gw, 2, none⟩ = some (.slice E W.e.length ce) := K1.cell 2
  have H1 := kH (kA h1 (kA M1 ha))
  have hbd : ∀ (m : Nat) (w : World), (Instr.build 137 #[(1, .map (some m)), (2, .slice E W.e.length ce)]).run Tryz.prog w = .ok (.agg #[.slice none 0 0, .map (some m), .slice E W.e.length ce]) w := fun m w => by kernel_rfl
  have HE : Hid (W.th ≠ b) := kH hth
  have hbw : becomeW W b = {W with th := b, d := [], a := []} := by unfold becomeW; rw [if_neg hth]
  have HBW := kH hbw
  clear h h1 M1 ha hth hbw
  go_enter Tryz.func115, Tryz.ntmps115
  go_wp2_with (first
   | (refine x6A rfl 137 _ _ rfl gw 139 _ _ _ _ _ _ _ _ _ rfl rfl K1 (by kernel_rfl) rfl rfl rfl ?_; intro w3 K3 o3 s3)
   | (refine x4O rfl 4 _ _ rfl gw 3 139 _ (.bool b) rfl rfl K3 (by simp) (by kernel_rfl) rfl ?_; intro w4 K4 o4 s4))
  refine bodyPost_end (results_none rfl _ _ _) rfl ?_
  obtain ⟨h1, M1, ha⟩ := H1.out
  have hs1 : (w.alloc (.map #[] 0)).heap.size = w.heap.size + 1 := World.size_alloc _ _
  have hz4 := o3.size
  have ho : Only [gw] (w.alloc (.map #[] 0)) w4 := o3.trans o4 (fun k hk => .inl hk)
  have hod : ∀ (e : TypeId), e ≠ 139 -> ∀ k ∈ [gw], Odd (w.alloc (.map #[] 0)) e k := fun e hq k hk => by simp at hk; subst hk; exact Odd.blk K1 hq.symm
  have hgl := HH.out.blk.lt
  refine ⟨rfl, ?_, (ha.mono hB).trans (ho.below (fun k hk => by simp at hk; subst hk; exact HH.out.gB) (by omega))⟩
  rw [HBW.out]
  exact ⟨0, ce, ct, none, E, T, .map (some w.heap.size), [], tv, ⟨K4, HH.out.gB, Own.nil _ _, (fun b hb => by cases hb), .inr ⟨w.heap.size, rfl, hB, M1.of (ho.block _ M1.lt (by simp; omega))⟩, .nil, x0N h1.ext ho (hod _ (by decide)), x0N h1.tol ho (hod _ (by decide)), h1.els.imp fun a b hr => (hr.only ho fun k hk => .inr (hod _ (by decide) k hk)).far (fun k hk => by simp [rowOf, Value.ownBlock] at hk)⟩⟩
end
section
open Go.RowKit Go.BigFrame Go.Maps Go.WideElems Go.ChangeMaps
theorem xG7 {x y : Nat} (hx : x < 256) (hy : y < 256) (h : UInt8.ofNat x = UInt8.ofNat y) : x = y := by
 have := congrArg UInt8.toNat h
 simp at this
 omega
theorem xHS {a b : List Nat} (ha : ∀ x ∈ a, x < 256) (hb : ∀ x ∈ b, x < 256) (h : strOf a = strOf b) : a = b := by
 have h1 := congrArg (fun s : ByteArray => s.data.toList) h
 simp only [x83] at h1
 have hl : a.length = b.length := by simpa using congrArg List.length h1
 apply List.ext_getElem?
 intro i
 have h2 := congrArg (fun l => l[i]?) h1
 simp only [List.getElem?_map] at h2
 by_cases hi : i < a.length
 ·rw [List.getElem?_eq_getElem hi, List.getElem?_eq_getElem (by omega)] at h2 ⊢
  simp at h2
  rw [xG7 (ha _ (List.getElem_mem hi)) (hb _ (List.getElem_mem (by omega))) h2]
 ·rw [List.getElem?_eq_none (by omega), List.getElem?_eq_none (by omega)]
theorem xKU {bs bs' : List Nat} (h : Small bs) (h' : Small bs') : ((strOf bs).toList == (strOf bs').toList) = (bs == bs') := by
 rw [Bool.eq_iff_iff, beq_iff_eq, beq_iff_eq, ByteArray.toList_eq, ByteArray.toList_eq]
 exact ⟨fun e => xHS h h' (Go.WideShapes.bytes_inj e), fun e => by rw [e]⟩
theorem x7E (A A' : Option Addr) (n n' c c' B B' : Nat) (bs bs' : List Nat) (w : World) (h : Bytes w B A n bs) (h' : Bytes w B' A' n' bs') :
  Calls Tryz.prog 124 #[.slice A n c, .slice A' n' c'] w fun e w' => e = .returned (.bool (bs == bs')) /\ w = w' := by
 have k1 := x6S (P := Tryz.prog) h c 35 9 5 Tryz.underlying35 Tryz.underlying5 Tryz.underlying9
 have k2 := x6S (P := Tryz.prog) h' c' 35 9 5 Tryz.underlying35 Tryz.underlying5 Tryz.underlying9
 have HE := kH (xKU h.2 h'.2)
 generalize strOf bs = s1 at *
 generalize strOf bs' = s2 at *
 clear h h'
 go_enter Tryz.func124, Tryz.ntmps124
 go_wp2
 go_ret
 exact ⟨by simp [HE.out], rfl⟩
theorem x47 (k : Int) (w : World) : Calls Tryz.prog 164 #[.bool true, .int .i64 k] w fun e w' => e = .returned .nilIface /\ w = w' := by
 go_enter Tryz.func164, Tryz.ntmps164
 go_wp2
 go_ret
 exact ⟨rfl, rfl⟩
theorem x5T (k : Nat) (w : World) : Calls Tryz.prog 164 #[.bool false, .int .i64 ((k + 1 : Nat) : Int)] w fun e w' => e = .returned (errV (k + 1)) /\ w = w' := by
 go_enter Tryz.func164, Tryz.ntmps164
 go_wp2
 go_ret
 exact ⟨rfl, rfl⟩
theorem xN7 (w : World) : Calls Tryz.prog 164 #[.bool false, .int .i64 5] w fun e w' => e = .returned (errV 5) /\ w = w' := x5T 4 w
theorem xMM (w : World) : Calls Tryz.prog 164 #[.bool false, .int .i64 6] w fun e w' => e = .returned (errV 6) /\ w = w' := x5T 5 w
theorem x8N (w : World) : Calls Tryz.prog 164 #[.bool false, .int .i64 7] w fun e w' => e = .returned (errV 7) /\ w = w' := x5T 6 w
theorem xNC (w : World) : Calls Tryz.prog 164 #[.bool false, .int .i64 8] w fun e w' => e = .returned (errV 8) /\ w = w' := x5T 7 w
def stepVal (x : StepV) (Dx : Option Addr) (cx : Nat) : Value := .agg #[.int .i64 x.kd, .int .i64 x.at_, .int .i64 x.ln, .string (strOf x.nm), .slice Dx x.dt.length cx]
structure StepIn (w : World) (x : StepV) (Bx : Nat) (Dx : Option Addr) : Prop where
 dat : Bytes w Bx Dx x.dt.length x.dt
 nm : Small x.nm
 at1 : -9223372036854775808 <= x.at_
 at2 : x.at_ <= 9223372036854775807
 ln1 : -9223372036854775808 <= x.ln
 ln2 : x.ln <= 9223372036854775807
 nl : x.nm.length <= 1000000
 dl : x.dt.length <= 1000000
theorem StepIn.since {w w' : World} {x : StepV} {Bx : Nat} {Dx : Option Addr} (h : StepIn w x Bx Dx) (hb : Below w.heap.size w w') : StepIn w' x Bx Dx := ⟨h.dat.since hb, h.nm, h.at1, h.at2, h.ln1, h.ln2, h.nl, h.dl⟩
theorem xAR {w : World} {B gw gs c ce ct : Nat} {D E T : Option Addr} {av : Value} {kv : KV} {tv : List Value} {W : Wk} (h : WkAt w B gw gs c ce ct D E T av kv tv W) (nm : List Nat) (hl : nm.length <= 1000000) :
  ∃ v b, (∀ w', Below w.heap.size w w' -> (Instr.lookup 134 av (.string (strOf nm)) true).run Tryz.prog w' = .ok (.tuple #[v, .bool b]) w') /\ ((b = false /\ gget W.a (keyB nm) = none) ∨ ∃ A1 c1 bs, b = true /\ gget W.a (keyB nm) = some bs /\ v = .slice A1 bs.length c1 /\ RowR w 0 (rowOf (.slice D W.d.length c)) v bs) := by
 have hz : ∀ w, (zeroValue 35).run Tryz.prog w = .ok (.slice none 0 0) w := fun w => by kernel_rfl
 rcases h.map with ⟨rfl, rfl, hth⟩ | ⟨mb, rfl, hB, hm⟩
 ·refine ⟨.slice none 0 0, false, fun w' _ => ?_, .inl ⟨rfl, ?_⟩⟩
  ·have := Maps.look_nil (P := Tryz.prog) (w := w') (t := 134) (e := 35) true (string_keyed Tryz.underlying9) Tryz.underlying134 (hz w') (x6Z Tryz.underlying9 (keyB nm) (by simp [keyB, maxLen]; omega))
   rw [x16] at this
   exact this
  ·cases hg : gget W.a (keyB nm) with
   | none => rfl
   | some u =>
    have := h.att
    generalize W.a = l at *
    cases this
    cases hg
 ·rcases h.att.get AttrR.key (keyB nm) with ⟨h1, h2⟩ | ⟨v, u, h1, h2, -, hr⟩
  ·refine ⟨.slice none 0 0, false, fun w' hb => ?_, .inl ⟨rfl, h2⟩⟩
   have := x3G (P := Tryz.prog) (t := 134) (et := 35) Tryz.underlying9 Tryz.underlying134 (hz w') (hm.of (hb.block _ hm.lt)) (keyB nm) (by simp [keyB, maxLen]; omega)
   rw [x16, h1] at this
   exact this
  ·obtain ⟨A1, c1, e, hr2⟩ := hr
   refine ⟨v, true, fun w' hb => ?_, .inr ⟨A1, c1, u, rfl, h2, e, ⟨A1, c1, e, hr2⟩⟩⟩
   have := x3G (P := Tryz.prog) (t := 134) (et := 35) Tryz.underlying9 Tryz.underlying134 (hz w') (hm.of (hb.block _ hm.lt)) (keyB nm) (by simp [keyB, maxLen]; omega)
   rw [x16, h1] at this
   exact this
set_option maxHeartbeats 4000000 in
theorem xG8 {w : World} {B gw gs c ce ct : Nat} {D E T : Option Addr} {av : Value} {kv : KV} {tv : List Value} {W : Wk} (h : WkAt w B gw gs c ce ct D E T av kv tv W) {x : StepV} {Bx cx : Nat} {Dx : Option Addr} (hx : StepIn w x Bx Dx) (hk1 : 1 <= x.kd) (hk5 : x.kd <= 5) {bl : List Bool}
  (hbl : ∀ w', Below w.heap.size w w' -> Calls Tryz.prog 165 #[.pointer (some ⟨gs, 0, none⟩), .int .i64 x.at_] w' fun e w'' => e = .returned (.bool (isClientB x.at_ && bl.getD x.at_.toNat false)) /\ w' = w'') :
  Calls Tryz.prog 114 #[.pointer (some ⟨gw, 0, none⟩), stepVal x Dx cx] w fun e w' => e = .returned (errV (needW bl W x)) /\ Below w.heap.size w w' := by
 obtain ⟨kd, at_, ln, nm, dt⟩ := x
 obtain ⟨v, b, hlk, hlc⟩ := xAR h nm hx.nl
 have HX := kH hx
 clear hx
 dsimp only at *
 obtain ⟨w1, hw1⟩ : ∃ w1, w1 = w.alloc (.cells #[.int .i64 kd, .int .i64 at_, .int .i64 ln, .string (strOf nm), .slice Dx dt.length cx] 52) := ⟨_, rfl⟩
 have hb1 : Below w.heap.size w w1 := by rw [hw1]; exact (Below.refl _ _).alloc (Nat.le_refl _) _
 have h1 := h.below hb1
 have K1 : Blk w1 w.heap.size 52 #[.int .i64 kd, .int .i64 at_, .int .i64 ln, .string (strOf nm), .slice Dx dt.length cx] := by rw [hw1]; exact Blk.new w _ _
 have HW1 := kH hw1
 have HB1 := kH hb1
 have HBL := kH hbl
 have HLC := kH hlc
 have hlk1 : ∀ q, (Instr.lookup 134 av (.string (strOf nm)) true).run Tryz.prog (w1.drewN q) = .ok (.tuple #[v, .bool b]) (w1.drewN q) := fun q => hlk _ (x08 hb1 q)
 have ck : ∀ q, (w1.drewN q).cell? ⟨w.heap.size, 0, none⟩ = some (.int .i64 kd) /\ (w1.drewN q).cell? ⟨w.heap.size, 1, none⟩ = some (.int .i64 at_) /\ (w1.drewN q).cell? ⟨w.heap.size, 3, none⟩ = some (.string (strOf nm)) /\ (w1.drewN q).cell? ⟨w.heap.size, 4, none⟩ = some (.slice Dx dt.length cx) := fun q => ⟨K1.cell 0, K1.cell 1, K1.cell 3, K1.cell 4⟩
 have cw : ∀ q, (w1.drewN q).cell? ⟨gw, 1, none⟩ = some av /\ (w1.drewN q).cell? ⟨gw, 3, none⟩ = some (.bool W.th) /\ (w1.drewN q).cell? ⟨gw, 5, none⟩ = some (.pointer (some ⟨gs, 0, none⟩)) := fun q => ⟨h1.blk.cell 1, h1.blk.cell 3, h1.blk.cell 5⟩
 have q1 := ck 0
 have q2 := cw 0
 unfold stepVal
 dsimp only
 clear hlk hb1 hbl hlc hw1 K1
 go_enter Tryz.func114, Tryz.ntmps114
 go_wp2_with fail
 rw [<- HW1.out]
 go_quiet (fail)
 obtain ⟨w2, hw2⟩ : ∃ w2, w2 = w1.drewN nq := ⟨_, rfl⟩
 have ck2 : ∀ q, (w2.drewN q).cell? ⟨w.heap.size, 0, none⟩ = some (.int .i64 kd) /\ (w2.drewN q).cell? ⟨w.heap.size, 1, none⟩ = some (.int .i64 at_) /\ (w2.drewN q).cell? ⟨w.heap.size, 3, none⟩ = some (.string (strOf nm)) /\ (w2.drewN q).cell? ⟨w.heap.size, 4, none⟩ = some (.slice Dx dt.length cx) := by rw [hw2]; intro q; exact ck q
 have cw2 : ∀ q, (w2.drewN q).cell? ⟨gw, 1, none⟩ = some av /\ (w2.drewN q).cell? ⟨gw, 3, none⟩ = some (.bool W.th) /\ (w2.drewN q).cell? ⟨gw, 5, none⟩ = some (.pointer (some ⟨gs, 0, none⟩)) := by rw [hw2]; intro q; exact cw q
 have HB2 : Hid (Below w.heap.size w w2) := kH (by rw [hw2]; exact x1F HB1.out _)
 have q1 : w2.cell? ⟨w.heap.size, 0, none⟩ = some (.int .i64 kd) /\ w2.cell? ⟨w.heap.size, 1, none⟩ = some (.int .i64 at_) /\ w2.cell? ⟨w.heap.size, 3, none⟩ = some (.string (strOf nm)) /\ w2.cell? ⟨w.heap.size, 4, none⟩ = some (.slice Dx dt.length cx) := ck2 0
 have q2 : w2.cell? ⟨gw, 1, none⟩ = some av /\ w2.cell? ⟨gw, 3, none⟩ = some (.bool W.th) /\ w2.cell? ⟨gw, 5, none⟩ = some (.pointer (some ⟨gs, 0, none⟩)) := cw2 0
 rw [<- hw2]
 clear hw2 ck cw hlk1 HW1
 have hkd : kd = 1 ∨ kd = 2 ∨ kd = 3 ∨ kd = 4 ∨ kd = 5 := by omega
 rcases hkd with rfl | rfl | rfl | rfl | rfl
 ·cases hth : W.th
  ·have HT := kH hth
   simp only [hth] at q2 cw2
   go_wp2_with (first | (refine (xMM _).mono ?_; rintro e w' ⟨rfl, rfl⟩))
   go_ret
   exact ⟨by simp [needW, HT.out], HB2.out⟩
  ·have HT := kH hth
   simp only [hth] at q2 cw2
   go_wp2_with (first | (refine (x47 6 _).mono ?_; rintro e w' ⟨rfl, rfl⟩))
   go_ret
   exact ⟨by simp [needW, HT.out, errV], HB2.out⟩
 ·cases hth : W.th
  ·have HT := kH hth
   simp only [hth] at q2 cw2
   go_wp2_with (first | (refine (x47 5 _).mono ?_; rintro e w' ⟨rfl, rfl⟩))
   go_ret
   exact ⟨by simp [needW, HT.out, errV], HB2.out⟩
  ·have HT := kH hth
   simp only [hth] at q2 cw2
   go_wp2_with (first | (refine (xN7 _).mono ?_; rintro e w' ⟨rfl, rfl⟩))
   go_ret
   exact ⟨by simp [needW, HT.out], HB2.out⟩
 ·rcases HLC.out with ⟨rfl, hg⟩ | ⟨A1, c1, bs, rfl, hg, rfl, A2, c2, e2, hown, hsm, -⟩
  ·have HG := kH hg
   clear hg
   go_wp2_with (first | (refine (x8N _).mono ?_; rintro e w' ⟨rfl, rfl⟩))
   go_ret
   exact ⟨by simp [needW, HG.out], HB2.out⟩
  ·have HG := kH hg
   have HEQ := kH (x7E A1 Dx bs.length dt.length c1 cx w.heap.size Bx bs dt w2 ((hown.bytes hsm).since HB2.out) (HX.out.dat.since HB2.out))
   have hH := HB2
   clear hg e2 hown hsm
   cases hbd : (bs == dt)
   ·have hne : bs ≠ dt := by simpa using hbd
    rw [hbd] at HEQ
    have HN := kH hne
    clear hne
    go_wp2_with (first | (refine HEQ.out.mono ?_; rintro e w' ⟨rfl, rfl⟩) | (refine (x8N _).mono ?_; rintro e w' ⟨rfl, rfl⟩))
    go_ret
    exact ⟨by simp [needW, HG.out, HN.out], HB2.out⟩
   ·have hne : bs = dt := by simpa using hbd
    rw [hbd] at HEQ
    have HN := kH hne
    clear hne
    go_wp2_with (first | (refine HEQ.out.mono ?_; rintro e w' ⟨rfl, rfl⟩) | (refine (x47 7 _).mono ?_; rintro e w' ⟨rfl, rfl⟩))
    go_ret
    exact ⟨by simp [needW, HG.out, HN.out, errV], HB2.out⟩
 ·rcases HLC.out with ⟨rfl, hg⟩ | ⟨A1, c1, bs, rfl, hg, rfl, -⟩
  ·have HG := kH hg
   clear hg
   go_wp2_with (first | (refine (x47 7 _).mono ?_; rintro e w' ⟨rfl, rfl⟩))
   go_ret
   exact ⟨by simp [needW, HG.out, errV], HB2.out⟩
  ·have HG := kH hg
   clear hg
   go_wp2_with (first | (refine (x8N _).mono ?_; rintro e w' ⟨rfl, rfl⟩))
   go_ret
   exact ⟨by simp [needW, HG.out], HB2.out⟩
 ·have HI := kH (x2C at_)
  cases hc : isClientB at_
  ·have HC := kH hc
   go_wp2_with fail
   refine (HI.out _).mono ?_
   rintro e w' ⟨rfl, rfl⟩
   rw [HC.out]
   clear hc HI HBL
   go_wp2
   go_ret
   exact ⟨by simp [needW, HC.out, errV], HB2.out⟩
  ·have HC := kH hc
   have hbq : ∀ q, Calls Tryz.prog 165 #[.pointer (some ⟨gs, 0, none⟩), .int .i64 at_] (w2.drewN q) fun e w'' => e = .returned (.bool (bl.getD at_.toNat false)) /\ w2.drewN q = w'' := fun q => by
    have := HBL.out (w2.drewN q) (x08 HB2.out q)
    rw [HC.out, Bool.true_and] at this
    exact this
   clear HBL
   go_wp2_with fail
   refine (HI.out _).mono ?_
   rintro e w' ⟨rfl, rfl⟩
   rw [HC.out]
   clear hc HI
   cases hbv : bl.getD at_.toNat false
   ·rw [hbv] at hbq
    have HBQ := kH hbq
    have HV := kH hbv
    clear hbq hbv
    go_wp2_with fail
    go_quiet (first
     | (go_at_call 165; exact Calls.quiet_of_same ((HBQ.out _).mono fun e w' h => ⟨h.1, h.2.symm⟩))
     | (go_at_call 164; exact Calls.quiet_of_same ((x47 8 _).mono fun e w' h => ⟨h.1, h.2.symm⟩)))
    go_wp2
    go_ret
    exact ⟨by simp only [needW]; rw [HC.out, HV.out]; rfl, x1F HB2.out _⟩
   ·rw [hbv] at hbq
    have HBQ := kH hbq
    have HV := kH hbv
    clear hbq hbv
    go_wp2_with fail
    go_quiet (first
     | (go_at_call 165; exact Calls.quiet_of_same ((HBQ.out _).mono fun e w' h => ⟨h.1, h.2.symm⟩))
     | (go_at_call 164; exact Calls.quiet_of_same ((xNC _).mono fun e w' h => ⟨h.1, h.2.symm⟩)))
    go_wp2
    go_ret
    exact ⟨by simp only [needW]; rw [HC.out, HV.out]; rfl, x1F HB2.out _⟩
end
section
open Go.RowKit Go.BigFrame
def stepC (x : StepV) (Dx : Option Addr) (cx : Nat) : Array Value := #[.int .i64 x.kd, .int .i64 x.at_, .int .i64 x.ln, .string (strOf x.nm), .slice Dx x.dt.length cx]
def Two2 (gw g3 : Nat) (wc sc : Array Value) (w : World) : Prop := Blk w gw 139 wc /\ Blk w g3 52 sc
theorem xGJ {P : Program} {Q : Exit -> Act -> World -> Prop} {o : Oper} {a : Act} {w w' : World} {K : Act -> World -> Prop} (hv : (execOp a.eval o).run P w = .ok .skip w') (h : K (a.put o.dst undef) w') : Oper.wp P o a w K Q := by
 unfold Oper.wp
 rw [hv]
 exact h
theorem xOU {w w3 w4 : World} {B gw gs c ce ct : Nat} {D E T : Option Addr} {av : Value} {kv : KV} {tv : List Value} {W : Wk} (h : WkAt w B gw gs c ce ct D E T av kv tv W) (hB : B <= w.heap.size) {mb : Nat} (hav : av = .map (some mb)) (hmB : B <= mb) (hb : Below w.heap.size w w3) {k : Key} {v : Value} {bs : List Nat} (hv : RowR w3 0 (rowOf (.slice D W.d.length c)) v bs)
  (hm : SMap Tryz.prog 9 w4 mb (aput k v kv)) (hg : w3.grownBy w4 (some mb)) : Wkd w4 B gw gs {W with a := gput k bs W.a} /\ Below B w w4 := by
 have h3 := h.below hb
 have hs := hb.size
 have ho : Only [mb] w3 w4 := (Only.refl _ _).grown hg (fun g e => .inl (by injection e with e; simp [e]))
 have hmap : SMap Tryz.prog 9 w3 mb kv := by
  rcases h3.map with ⟨e, _⟩ | ⟨mb', e, h1, h2⟩
  ·rw [e] at hav; cases hav
  ·rw [e] at hav
   injection hav with hav
   injection hav with hav
   subst hav
   exact h2
 have hod : ∀ (e : TypeId), ∀ k ∈ [mb], Odd w3 e k := fun e k hk => by simp at hk; subst hk; exact Odd.map hmap
 refine ⟨h3.attrs hav ho hm ?_, (hb.mono hB).trans (ho.below (fun k hk => by simp at hk; omega) (by omega))⟩
 have hr : Rel2 (AttrR w4 (rowOf (.slice D W.d.length c))) kv W.a := h3.att.imp fun a b hr => ⟨hr.1, hr.2.only ho fun k hk => .inr (hod _ k hk)⟩
 exact hr.put AttrR.key ⟨rfl, hv.only ho fun k hk => .inr (hod _ k hk)⟩
theorem xNJ {w w3 w4 : World} {B gw gs c ce ct : Nat} {D E T : Option Addr} {av : Value} {kv : KV} {tv : List Value} {W : Wk} (h : WkAt w B gw gs c ce ct D E T av kv tv W) (hB : B <= w.heap.size) {mb : Nat} (hav : av = .map (some mb)) (hmB : B <= mb) (hb : Below w.heap.size w w3) {k : Key}
  (hm : SMap Tryz.prog 9 w4 mb (adel k kv)) (hg : w3.grownBy w4 (some mb)) : Wkd w4 B gw gs {W with a := gdel k W.a} /\ Below B w w4 := by
 have h3 := h.below hb
 have hs := hb.size
 have ho : Only [mb] w3 w4 := (Only.refl _ _).grown hg (fun g e => .inl (by injection e with e; simp [e]))
 have hmap : SMap Tryz.prog 9 w3 mb kv := by
  rcases h3.map with ⟨e, _⟩ | ⟨mb', e, h1, h2⟩
  ·rw [e] at hav; cases hav
  ·rw [e] at hav
   injection hav with hav
   injection hav with hav
   subst hav
   exact h2
 have hod : ∀ (e : TypeId), ∀ k ∈ [mb], Odd w3 e k := fun e k hk => by simp at hk; subst hk; exact Odd.map hmap
 refine ⟨h3.attrs hav ho hm ?_, (hb.mono hB).trans (ho.below (fun k hk => by simp at hk; omega) (by omega))⟩
 have hr : Rel2 (AttrR w4 (rowOf (.slice D W.d.length c))) kv W.a := h3.att.imp fun a b hr => ⟨hr.1, hr.2.only ho fun k hk => .inr (hod _ k hk)⟩
 exact hr.del AttrR.key k
set_option maxHeartbeats 8000000 in
theorem xMZ {w : World} {B gw gs c ce ct : Nat} {D E T : Option Addr} {av : Value} {kv : KV} {tv : List Value} {W : Wk} (h : WkAt w B gw gs c ce ct D E T av kv tv W) (hB : B <= w.heap.size) (hth : W.th = true) (ha : W.a.length <= 1000000) (ht : W.told.length <= 1000000) (hsm : ∀ k bs, gget W.a k = some bs -> bs.length <= 1000000)
  {x : StepV} {Bx cx : Nat} {Dx : Option Addr} (hx : StepIn w x Bx Dx) (hk : x.kd = 11 ∨ x.kd = 12 ∨ x.kd = 14) :
  Calls Tryz.prog 166 #[.pointer (some ⟨gw, 0, none⟩), stepVal x Dx cx] w (StepTo w B gw gs (insideW W x).1 (errV (insideW W x).2)) := by
 obtain ⟨mb, rfl, hmB, hmm⟩ : ∃ mb, av = .map (some mb) /\ B <= mb /\ SMap Tryz.prog 9 w mb kv := by
  rcases h.map with ⟨_, _, e⟩ | hh
  ·rw [hth] at e; cases e
  ·exact hh
 obtain ⟨kd, at_, ln, nm, dt⟩ := x
 dsimp only at *
 obtain ⟨w1, hw1⟩ : ∃ w1, w1 = w.alloc (.cells #[.int .i64 kd, .int .i64 at_, .int .i64 ln, .string (strOf nm), .slice Dx dt.length cx] 52) := ⟨_, rfl⟩
 obtain ⟨g3, hg3⟩ : ∃ g3, g3 = w.heap.size := ⟨_, rfl⟩
 have hb1 : Below w.heap.size w w1 := by rw [hw1]; exact (Below.refl _ _).alloc (Nat.le_refl _) _
 have h1 := h.below hb1
 have K1 : Blk w1 g3 52 (stepC ⟨kd, at_, ln, nm, dt⟩ Dx cx) := by rw [hw1, hg3]; exact Blk.new w _ _
 have HH := kH h
 have HX := kH hx
 have HKV : Hid (kv.length = W.a.length) := kH h.att.len
 have HW1 := kH (kA hw1 hg3)
 have HB1 := kH hb1
 have HTH := kH hth
 have HLK := kH (xAR h nm hx.nl)
 have HC : Hid (∀ w', Two2 gw g3 (workC D W.d.length c (.map (some mb)) E W.e.length ce W.th T W.told.length ct gs) (stepC ⟨kd, at_, ln, nm, dt⟩ Dx cx) w' -> w'.cell? ⟨gw, 1, none⟩ = some (.map (some mb)) /\ w'.cell? ⟨g3, 3, none⟩ = some (.string (strOf nm)) /\ w'.cell? ⟨g3, 4, none⟩ = some (.slice Dx dt.length cx)) := kH fun w' h => ⟨h.1.cell 1, h.2.cell 3, h.2.cell 4⟩
 have HMM := kH hmm
 have q0 : w1.cell? ⟨g3, 0, none⟩ = some (.int .i64 kd) := K1.cell 0
 have q3 : w1.cell? ⟨g3, 3, none⟩ = some (.string (strOf nm)) := K1.cell 3
 have HNM := kH (x3S nm hx.nm hx.nl w1)
 unfold stepVal
 dsimp only
 clear h hx hb1 hw1 hth hmm hg3
 go_enter Tryz.func166, Tryz.ntmps166
 rcases hk with rfl | rfl | rfl
 -- {A
 ·go_wp2_with (first | rw [<- HW1.out.1, <- HW1.out.2])
  refine HNM.out.mono ?_
  rintro e w2 ⟨rfl, hb2⟩
  have hb02 : Below w.heap.size w w2 := HB1.out.trans (hb2.mono HB1.out.size)
  have h2 := h1.below hb2
  have K2 := K1.of (hb2.block _ K1.lt)
  have q4 : w2.cell? ⟨g3, 4, none⟩ = some (.slice Dx dt.length cx) := K2.cell 4
  have H2 := kH (kA h2 hb02)
  have HK2 := kH K2
  clear h1 h2 hb2 hb02 K1 K2 q0 q3 HW1 HNM
  cases hnm : isNameB nm
  ·have HN := kH hnm
   clear hnm
   go_wp2
   go_ret
   have hin : insideW W ⟨11, at_, ln, nm, dt⟩ = (W, 1) := by simp [insideW, HN.out]
   rw [hin]
   exact ⟨rfl, ⟨_, _, _, _, _, _, _, _, _, H2.out.1⟩, H2.out.2.mono hB⟩
  ·have HN := kH hnm
   clear hnm
   by_cases hlen : dt.length <= 1024
   ·have hd : decide ((1024 : Int) < (dt.length : Int)) = false := decide_eq_false (by omega)
    have hin : insideW W ⟨11, at_, ln, nm, dt⟩ = ({W with a := gput (keyB nm) dt W.a}, 0) := by simp [insideW, HN.out, hlen]
    have HIN := kH hin
    clear hin
    go_wp2_with fail
    have hS : Two2 gw g3 (workC D W.d.length c (.map (some mb)) E W.e.length ce W.th T W.told.length ct gs) (stepC ⟨11, at_, ln, nm, dt⟩ Dx cx) w2.drew := ⟨H2.out.1.blk.drew, HK2.out.drew⟩
    refine x09 (Two2 gw g3 (workC D W.d.length c (.map (some mb)) E W.e.length ce W.th T W.told.length ct gs) (stepC ⟨11, at_, ln, nm, dt⟩ Dx cx)) 10 (by kernel_rfl) ?_
    refine tL (i := 0) (v := .pointer (some ⟨gw, 0, none⟩)) rfl rfl (by kernel_rfl) (by rfl) (fun w hw => by kernel_rfl) hS ?_
    simp only [Act.put, nB, nC, nD, nE, nF, nG]
    refine tL (i := 1) (v := .pointer (some ⟨gw, 0, none⟩)) rfl rfl (by kernel_rfl) (by rfl) (fun w hw => by kernel_rfl) hS ?_
    simp only [Act.put, nB, nC, nD, nE, nF, nG]
    refine tL (i := 2) (v := .pointer (some ⟨gw, 0, none⟩)) rfl rfl (by kernel_rfl) (by rfl) (fun w hw => by go_simp) hS ?_
    simp only [Act.put, nB, nC, nD, nE, nF, nG]
    refine tL (i := 3) (v := .pointer (some ⟨gw, 1, none⟩)) rfl rfl (by kernel_rfl) (by rfl) (fun w hw => by go_simp) hS ?_
    simp only [Act.put, nB, nC, nD, nE, nF, nG]
    refine tL (i := 4) (v := .map (some mb)) rfl rfl (by kernel_rfl) (by rfl) (fun w hw => by have q := (HC.out w hw).1; go_simp) hS ?_
    simp only [Act.put, nB, nC, nD, nE, nF, nG]
    refine tL (i := 5) (v := .pointer (some ⟨g3, 3, none⟩)) rfl rfl (by kernel_rfl) (by rfl) (fun w hw => by go_simp) hS ?_
    simp only [Act.put, nB, nC, nD, nE, nF, nG]
    refine tL (i := 6) (v := .string (strOf nm)) rfl rfl (by kernel_rfl) (by rfl) (fun w hw => by have q := (HC.out w hw).2.1; go_simp) hS ?_
    simp only [Act.put, nB, nC, nD, nE, nF, nG]
    refine tL (i := 7) (v := .pointer (some ⟨g3, 4, none⟩)) rfl rfl (by kernel_rfl) (by rfl) (fun w hw => by go_simp) hS ?_
    simp only [Act.put, nB, nC, nD, nE, nF, nG]
    refine tL (i := 8) (v := .slice Dx dt.length cx) rfl rfl (by kernel_rfl) (by rfl) (fun w hw => by have q := (HC.out w hw).2.2; go_simp) hS ?_
    simp only [Act.put, nB, nC, nD, nE, nF, nG]
    refine x01 (j := 9) (by kernel_rfl) rfl (by rfl) ?_
    simp only [Act.put, nB, nC, nD, nE, nF, nG]
    refine x03 (by kernel_rfl) (x0P Dx dt.length cx dt w2.drew Bx (by have := HX.out.dl; simp at this; omega) (HX.out.dat.since H2.out.2).drew) ?_
    rintro e w3 ⟨v, rfl, hv, hb3⟩
    have hb3' : Below w2.heap.size w2 w3 := x0K hb3
    have hb03 : Below w.heap.size w w3 := H2.out.2.trans (hb3'.mono H2.out.2.size)
    refine ⟨_, rfl, ⟨H2.out.1.blk.of (hb3'.block _ H2.out.1.blk.lt), HK2.out.of (hb3'.block _ HK2.out.lt)⟩, ?_⟩
    simp only [Act.put, nB, nC, nD, nE, nF, nG]
    have hm3 : SMap Tryz.prog 9 w3 mb kv := HMM.out.of (hb03.block _ HMM.out.lt)
    obtain ⟨w4, hrun, hm4, hg4, -⟩ := x25 (P := Tryz.prog) Tryz.underlying9 Tryz.underlying134 hm3 (keyB nm) (by have := HX.out.nl; simp [keyB, maxLen] at this ⊢; omega) (by rw [HKV.out]; simp only [maxLen]; omega) v
    rw [x16] at hrun
    have hfin : StepTo w B gw gs (insideW W ⟨11, at_, ln, nm, dt⟩).1 (errV (insideW W ⟨11, at_, ln, nm, dt⟩).2) (.returned .nilIface) w4 := by
     rw [HIN.out]
     obtain ⟨x1, x2⟩ := xOU HH.out hB rfl hmB hb03 (v := v) (bs := dt) (by
      obtain ⟨A1, c1, rfl, -⟩ := hv.form
      exact ⟨A1, c1, rfl, hv.weaken (Nat.zero_le _), HX.out.dat.2, fun k hk hm => by
       have a1 := x0I hv k hk
       have a2 := x02 HH.out.dat k hm
       have a3 := H2.out.2.size
       have a4 : w2.drew.heap.size = w2.heap.size := rfl
       omega⟩) hm4 hg4
     exact ⟨rfl, x1, x2⟩
    have HFIN := kH hfin
    have HRUN := kH hrun
    clear hfin hm4 hg4 hm3 hb03 hb3' hb3 hv hS hrun
    refine x1V (by kernel_rfl) rfl (by rfl) (by kernel_rfl) ?_
    simp only [Act.put, nB, nC, nD, nE, nF, nG]
    refine xGJ (w' := w4) (by have q := HRUN.out; go_simp) ?_
    refine NoPanic.normal ?_
    simp only [Act.put, nB, nC, nD, nE, nF, nG]
    go_wp2
    go_ret
    exact HFIN.out
   ·have hd : decide ((1024 : Int) < (dt.length : Int)) = true := decide_eq_true (by omega)
    have hin : insideW W ⟨11, at_, ln, nm, dt⟩ = (W, 1) := by simp [insideW, HN.out, hlen]
    have HIN := kH hin
    clear hin
    go_wp2
    go_ret
    rw [HIN.out]
    exact ⟨rfl, ⟨_, _, _, _, _, _, _, _, _, H2.out.1⟩, H2.out.2.mono hB⟩
 -- A}
 -- {Bq
 ·go_wp2_with fail
  rw [<- HW1.out.1, <- HW1.out.2]
  have hin : insideW W ⟨12, at_, ln, nm, dt⟩ = ({W with a := gdel (keyB nm) W.a}, 0) := by simp [insideW]
  have HIN := kH hin
  have hS : Two2 gw g3 (workC D W.d.length c (.map (some mb)) E W.e.length ce W.th T W.told.length ct gs) (stepC ⟨12, at_, ln, nm, dt⟩ Dx cx) w1.drew := ⟨h1.blk.drew, K1.drew⟩
  refine x09 (Two2 gw g3 (workC D W.d.length c (.map (some mb)) E W.e.length ce W.th T W.told.length ct gs) (stepC ⟨12, at_, ln, nm, dt⟩ Dx cx)) 99 (by kernel_rfl) ?_
  refine tS (i := 0) (v := .pointer (some ⟨gw, 0, none⟩)) rfl rfl (by kernel_rfl) (by rfl) (fun w hw => by kernel_rfl) hS ?_
  simp only [Act.put, nB, nC, nD, nE, nF, nG]
  refine tS (i := 1) (v := .pointer (some ⟨gw, 0, none⟩)) rfl rfl (by kernel_rfl) (by rfl) (fun w hw => by kernel_rfl) hS ?_
  simp only [Act.put, nB, nC, nD, nE, nF, nG]
  refine tS (i := 2) (v := .pointer (some ⟨gw, 0, none⟩)) rfl rfl (by kernel_rfl) (by rfl) (fun w hw => by go_simp) hS ?_
  simp only [Act.put, nB, nC, nD, nE, nF, nG]
  refine tS (i := 3) (v := .pointer (some ⟨gw, 1, none⟩)) rfl rfl (by kernel_rfl) (by rfl) (fun w hw => by go_simp) hS ?_
  simp only [Act.put, nB, nC, nD, nE, nF, nG]
  refine tS (i := 4) (v := .map (some mb)) rfl rfl (by kernel_rfl) (by rfl) (fun w hw => by have q := (HC.out w hw).1; go_simp) hS ?_
  simp only [Act.put, nB, nC, nD, nE, nF, nG]
  refine tS (i := 5) (v := .pointer (some ⟨g3, 3, none⟩)) rfl rfl (by kernel_rfl) (by rfl) (fun w hw => by go_simp) hS ?_
  simp only [Act.put, nB, nC, nD, nE, nF, nG]
  refine tS (i := 6) (v := .string (strOf nm)) rfl rfl (by kernel_rfl) (by rfl) (fun w hw => by have q := (HC.out w hw).2.1; go_simp) hS ?_
  simp only [Act.put, nB, nC, nD, nE, nF, nG]
  have hm3 : SMap Tryz.prog 9 w1.drew mb kv := HMM.out.of (HB1.out.block _ HMM.out.lt)
  obtain ⟨w4, hrun, hm4, hg4, -⟩ := x4H (P := Tryz.prog) (ty := 0) Tryz.underlying9 Tryz.underlying134 hm3 (keyB nm) (by have := HX.out.nl; simp [keyB, maxLen] at this ⊢; omega)
  rw [x16] at hrun
  have hfin : StepTo w B gw gs (insideW W ⟨12, at_, ln, nm, dt⟩).1 (errV (insideW W ⟨12, at_, ln, nm, dt⟩).2) (.returned .nilIface) w4 := by
   rw [HIN.out]
   obtain ⟨x1, x2⟩ := xNJ HH.out hB rfl hmB (x08 HB1.out 1) hm4 hg4
   exact ⟨rfl, x1, x2⟩
  have hS4 : Two2 gw g3 (workC D W.d.length c (.map (some mb)) E W.e.length ce W.th T W.told.length ct gs) (stepC ⟨12, at_, ln, nm, dt⟩ Dx cx) w4 := ⟨hS.1.grown hg4 (fun e => by injection e with e; exact hm3.ne_blk hS.1 e.symm), hS.2.grown hg4 (fun e => by injection e with e; exact hm3.ne_blk hS.2 e.symm)⟩
  have HFIN := kH hfin
  have HRUN := kH hrun
  clear hfin hm4 hg4 hm3 hS hrun hin
  refine x01 (j := 7) (by kernel_rfl) rfl (by rfl) ?_
  simp only [Act.put, nB, nC, nD, nE, nF, nG]
  refine x0B (v := .tuple #[]) (w' := w4) (by have q := HRUN.out; go_simp) ⟨hS4, ?_⟩
  simp only [Act.put, nB, nC, nD, nE, nF, nG]
  refine x0V (by kernel_rfl) ?_
  refine NoPanic.normal ?_
  go_wp2
  go_ret
  exact HFIN.out
 -- Bq}
 -- {Cq
 ·obtain ⟨v, b, hlk, hlc⟩ := HLK.out
  have HLC := kH hlc
  have hlk1 : ∀ q, (Instr.lookup 134 (.map (some mb)) (.string (strOf nm)) true).run Tryz.prog (w1.drewN q) = .ok (.tuple #[v, .bool b]) (w1.drewN q) := fun q => hlk _ (x08 HB1.out q)
  have ck : ∀ q, (w1.drewN q).cell? ⟨g3, 3, none⟩ = some (.string (strOf nm)) := fun q => K1.cell 3
  have cw : ∀ q, (w1.drewN q).cell? ⟨gw, 1, none⟩ = some (.map (some mb)) := fun q => h1.blk.cell 1
  clear hlk hlc HLK
  go_wp2_with fail
  rw [<- HW1.out.1, <- HW1.out.2]
  go_quiet (fail)
  obtain ⟨w2, hw2⟩ : ∃ w2, w2 = w1.drewN nq := ⟨_, rfl⟩
  have h2 : WkAt w2 B gw gs c ce ct D E T (.map (some mb)) kv tv W := by rw [hw2]; exact h1.below (x08 (Below.refl _ _) _)
  have hb02 : Below w.heap.size w w2 := by rw [hw2]; exact x08 HB1.out _
  rw [<- hw2]
  have H2 := kH (kA h2 hb02)
  clear hw2 ck cw hlk1 HW1 h1 h2 hb02 K1 q0 q3 HNM
  rcases HLC.out with ⟨rfl, hg⟩ | ⟨A1, c1, bs, rfl, hg, rfl, A2, c2, e2, hown, hsm2, -⟩
  ·have hin : insideW W ⟨14, at_, ln, nm, dt⟩ = (W, 6) := by simp [insideW, hg]
   have HIN := kH hin
   clear hin hg
   go_wp2
   go_ret
   rw [HIN.out]
   exact ⟨rfl, ⟨_, _, _, _, _, _, _, _, _, H2.out.1⟩, H2.out.2.mono hB⟩
  ·have hin : insideW W ⟨14, at_, ln, nm, dt⟩ = ({W with told := W.told ++ [bs]}, 0) := by simp [insideW, hg]
   have HIN := kH hin
   have HT := kH (xDW (nx := 0) (cx := c1) H2.out.1 (by have := H2.out.2.size; omega) ht ((hown.bytes hsm2).since H2.out.2) (hsm _ _ hg))
   clear hin hg e2 hown hsm2
   go_wp2_with (first | (refine HT.out.mono ?_; rintro e w' ⟨⟨rfl, hw, hb⟩, -⟩))
   go_ret
   rw [HIN.out]
   exact ⟨rfl, hw, (H2.out.2.mono hB).trans hb⟩
 -- Cq}
end
section
open Go.RowKit Go.BigFrame
theorem xCF (A : Option Addr) : A.map (·.add 0) = A := by cases A <;> simp [Addr.add]
theorem x9C {w : World} {B m c : Nat} {D : Option Addr} {d : List Nat} (h : Bytes w B D m d) (hc : m <= c) (at_ n : Nat) : ∃ A2, partV D m c at_ n = .slice A2 (partB d at_ n).length (c - partA m at_) /\ Bytes w B A2 (partB d at_ n).length (partB d at_ n) /\ ((D = none ∨ 0 < (partB d at_ n).length) -> A2 = D.map (·.add (min at_ m))) := by
 have hl := h.len
 have hcut := h.1.cut (k := min at_ m) (cap := c) (by omega) hc
 have hd : (u8s d).drop (min at_ m * 1) = u8s (d.drop (min at_ m)) := by simp [u8s, List.map_drop]
 rw [hd] at hcut
 have hlen : (partB d at_ n).length = min n (m - min at_ m) := by unfold partB; rw [hl]; simp; omega
 have hB1 : Bytes w B (if c = min at_ m then D else D.map (·.add (min at_ m * 1))) (m - min at_ m) (d.drop (min at_ m)) := ⟨hcut, fun b hb => h.2 b (List.mem_of_mem_drop hb)⟩
 have hB2 := hB1.take (k := min n (m - min at_ m)) (by omega)
 have e2 : (d.drop (min at_ m)).take (min n (m - min at_ m)) = partB d at_ n := by unfold partB; rw [hl]
 rw [e2] at hB2
 refine ⟨if c = min at_ m then D else D.map (·.add (min at_ m * 1)), ?_, by rw [hlen]; exact hB2, fun hh => ?_⟩
 ·unfold partV partK partA
  rw [xCF, hlen]
  congr 1
  split <;> rfl
 ·rcases hh with rfl | hh
  ·simp
  ·rw [if_neg (by omega), Nat.mul_one]
theorem xJU {w : World} {base b n c at_ k : Nat} {R : List Nat} (h : Own w base (.slice (some ⟨b, 0, none⟩) n c) n R) (hk : at_ + k <= n) (h0 : 0 < k) :
  ∃ w', (∀ ty cc, (Builtin.clear_ #[35] ty #[.slice (some ⟨b, at_, none⟩) k cc]).run Tryz.prog w = .ok (.tuple #[]) w') /\ Own w' base (.slice (some ⟨b, 0, none⟩) n c) n (R.take at_ ++ List.replicate k 0 ++ R.drop (at_ + k)) /\ Only [b] w w' := by
 have hv : ∀ w, (zeroValue 5).run Tryz.prog w = .ok (.int .u8 0) w := fun w => by kernel_rfl
 obtain ⟨cur, hcur, hfit, hown, hon⟩ := xD4 (at_ := at_) (nb := List.replicate k 0) h (by simpa using hk)
 have hu : u8s (List.replicate k 0) = List.replicate k (Value.int .u8 0) := by simp [u8s, u8]
 have hst := run_storeCells_at Tryz.prog b at_ 5 (List.replicate k (Value.int .u8 0)) 0 cur w hcur (by simpa using hfit) (fun u hu => by rw [List.eq_of_mem_replicate hu]; rfl)
 rw [hu] at hown hon
 simp only [List.length_replicate] at hown hon hst
 refine ⟨_, fun ty cc => ?_, hown, hon⟩
 obtain ⟨m, rfl⟩ : ∃ m, k = m + 1 := ⟨k - 1, by omega⟩
 have hz := x73 (m + 1)
 simp [Builtin.clear_, run_underlying Tryz.underlying35, hv, hz] at hst ⊢
 simp [hst]
theorem xCQ (A2 : Option Addr) (n c2 g : Nat) (hn : n = 0) (at_ : Int) (w : World) : Calls Tryz.prog 168 #[.pointer (some ⟨g, 0, none⟩), .int .i64 at_, .slice A2 n c2] w fun e w' => e = .returned (.tuple #[]) /\ w = w' := by
 have hkb : ((n : Int) == 0) = true := by simp [hn]
 clear hn
 go_enter Tryz.func168, Tryz.ntmps168
 go_wp2
 refine bodyPost_ret (results_none rfl _ _ _) rfl ?_
 exact ⟨rfl, rfl⟩
theorem xDE {d nb : List Nat} {at_ : Nat} (h : Small d) (h' : Small nb) : Small (writeB d at_ nb) := by
 have hz : ∀ n, Small (resizeB d n) := fun n b hb => by
  unfold resizeB at hb
  rcases List.mem_append.1 hb with hb | hb
  ·exact h b (List.mem_of_mem_take hb)
  ·rw [List.eq_of_mem_replicate hb]; omega
 intro b hb
 unfold writeB at hb
 split at hb
 ·exact h b hb
 ·rcases List.mem_append.1 hb with hb | hb
  ·rcases List.mem_append.1 hb with hb | hb
   ·exact hz _ b (List.mem_of_mem_take hb)
   ·exact h' b hb
  ·exact hz _ b (List.mem_of_mem_drop hb)
theorem xBY {d : List Nat} {n : Nat} (h : Small d) : Small (resizeB d n) := fun b hb => by
 unfold resizeB at hb
 rcases List.mem_append.1 hb with hb | hb
 ·exact h b (List.mem_of_mem_take hb)
 ·rw [List.eq_of_mem_replicate hb]; omega
theorem xEA {d : List Nat} {at_ n : Nat} (h : Small d) : Small (zeroB d at_ n) := fun b hb => by
 unfold zeroB at hb
 rcases List.mem_append.1 hb with hb | hb
 ·rcases List.mem_append.1 hb with hb | hb
  ·exact h b (List.mem_of_mem_take hb)
  ·rw [List.eq_of_mem_replicate hb]; omega
 ·exact h b (List.mem_of_mem_drop hb)
theorem xL0 {w : World} {B gw gs c ce ct : Nat} {D E T : Option Addr} {av : Value} {kv : KV} {tv : List Value} {W : Wk} (h : WkAt w B gw gs c ce ct D E T av kv tv W) (hB : B <= w.heap.size) (hd : W.d.length <= 1000000) {Bx cx at_ : Nat} {Dx : Option Addr} {dt : List Nat} (hx : Bytes w Bx Dx dt.length dt) (hBx : Bx <= B) (hat : at_ + dt.length <= 1000000) :
  Calls Tryz.prog 168 #[.pointer (some ⟨gw, 0, none⟩), .int .i64 (at_ : Int), .slice Dx dt.length cx] w (fun e w' => StepTo w B gw gs {W with d := writeB W.d at_ dt} (.tuple #[]) e w' /\ ∀ k cs, Blk w k 52 cs -> w'.heap[k]? = w.heap[k]?) := by
 by_cases hl : dt.length = 0
 ·have hwb : writeB W.d at_ dt = W.d := by unfold writeB; rw [if_pos hl]
  rw [hwb]
  refine (xCQ Dx dt.length cx gw hl at_ w).mono ?_
  rintro e w' ⟨rfl, rfl⟩
  exact ⟨⟨rfl, ⟨_, _, _, _, _, _, _, _, _, h⟩, Below.refl _ _⟩, fun _ _ _ => rfl⟩
 ·have hgB := h.gB
  refine (xEV (nb := dt) (at_ := at_) (c2 := cx) h.blk (by decide) (by rfl) h.dat hB hx (by omega) (fun ad hA => ?_) hat hd).mono ?_
  ·obtain ⟨ad', e, hb, _⟩ := hx.1.2 (by omega)
   rw [hA] at e
   injection e with e
   subst e
   refine ⟨by omega, fun hm => ?_⟩
   have := x0I h.dat _ hm
   omega
  ·rintro e w' ⟨rfl, D', n', c', hb, ho, hon, hnew⟩
   refine ⟨⟨rfl, h.data hb ho hon hnew (xDE h.ok hx.2), hon.below (fun k hk => ?_) hB⟩, fun k cs hk => hon.block k hk.lt fun hm => ?_⟩
   ·rcases List.mem_cons.1 hk with rfl | hk
    ·exact hgB
    ·exact x0I h.dat k hk
   ·rcases List.mem_cons.1 hm with rfl | hm
    ·exact hk.ne_ h.blk (by decide) rfl
    ·obtain ⟨cs', hb'⟩ := x0G h.dat (x00.1 hm)
     exact hk.ne_ hb' (by decide) rfl
theorem xJ6 {w : World} {B gw gs c ce ct : Nat} {D E T : Option Addr} {av : Value} {kv : KV} {tv : List Value} {W : Wk} (h : WkAt w B gw gs c ce ct D E T av kv tv W) (hB : B <= w.heap.size) (hd : W.d.length <= 1000000) {n : Nat} (hn : n <= 1000000) :
  Calls Tryz.prog 170 #[.pointer (some ⟨gw, 0, none⟩), .int .i64 (n : Int)] w (fun e w' => StepTo w B gw gs {W with d := resizeB W.d n} (.tuple #[]) e w' /\ ∀ k cs, Blk w k 52 cs -> w'.heap[k]? = w.heap[k]?) := by
 have hgB := h.gB
 refine (x9U (n := n) h.blk (by decide) (by rfl) h.dat hB hn hd).mono ?_
 rintro e w' ⟨rfl, D', c', hb, ho, hon, hnew⟩
 refine ⟨⟨rfl, h.data hb ho hon hnew (xBY h.ok), hon.below (fun k hk => ?_) hB⟩, fun k cs hk => hon.block k hk.lt fun hm => ?_⟩
 ·rcases List.mem_cons.1 hk with rfl | hk
  ·exact hgB
  ·exact x0I h.dat k hk
 ·rcases List.mem_cons.1 hm with rfl | hm
  ·exact hk.ne_ h.blk (by decide) rfl
  ·obtain ⟨cs', hb'⟩ := x0G h.dat (x00.1 hm)
   exact hk.ne_ hb' (by decide) rfl
theorem xMQ {w : World} {B gw gs c ce ct : Nat} {D E T : Option Addr} {av : Value} {kv : KV} {tv : List Value} {W : Wk} (h : WkAt w B gw gs c ce ct D E T av kv tv W) (hB : B <= w.heap.size) (at_ n : Nat) :
    ∃ w', (∀ ty, (Builtin.clear_ #[35] ty #[partV D W.d.length c at_ n]).run Tryz.prog w = .ok (.tuple #[]) w') /\ Wkd w' B gw gs {W with d := zeroB W.d at_ n} /\ Below B w w' /\ ∀ k cs, Blk w k 52 cs -> w'.heap[k]? = w.heap[k]? := by
  obtain ⟨-, -, hc, hD⟩ := x22 h.dat
  obtain ⟨A2, hp, hb, hA⟩ := x9C (h.dat.bytes h.ok) hc at_ n
  have hlen : (partB W.d at_ n).length = min n (W.d.length - min at_ W.d.length) := by unfold partB; simp <;> omega
  by_cases hz : (partB W.d at_ n).length = 0
  · refine ⟨w, fun ty => ?_, ?_, Below.refl _ _, fun _ _ _ => rfl⟩
    · rw [hp, hz]
      cases A2 <;> simp [Builtin.clear_, run_underlying Tryz.underlying35]
    · have : zeroB W.d at_ n = W.d := by
        unfold zeroB
        rw [<- hlen, hz]
        simp
      rw [this]
      exact ⟨_, _, _, _, _, _, _, _, _, h⟩
  · obtain ⟨ad, e2, _, _⟩ := hb.1.2 (by omega)
    have hA' := hA (.inr (by omega))
    rw [e2] at hA'
    rcases hD with rfl | ⟨b, rfl⟩
    · cases hA'
    · rw [Option.map_some] at hA'
      injection hA' with hA'
      rw [x15] at hA'
      subst hA'
      subst e2
      obtain ⟨w', hrun, hown, hon⟩ := xJU (at_ := min at_ W.d.length) (k := (partB W.d at_ n).length) h.dat (by omega) (by omega)
      have hgb : gw ≠ b := by
        obtain ⟨cs', hb'⟩ := x0G h.dat (k := b) rfl
        exact h.blk.ne_ hb' (by decide)
      have hzb : W.d.take (min at_ W.d.length) ++ List.replicate (partB W.d at_ n).length 0 ++ W.d.drop (min at_ W.d.length + (partB W.d at_ n).length) = zeroB W.d at_ n := by
        unfold zeroB
        rw [hlen]
      rw [hzb] at hown
      refine ⟨w', fun ty => by rw [hp]; exact hrun ty _, h.data (by rw [x5O (by rfl)]; exact h.blk.of (hon.block _ h.blk.lt (by simpa using hgb))) hown (hon.mono fun k hk => by simp at hk; subst hk; simp [rowOf, Value.ownBlock]) (.inl rfl) (xEA h.ok), hon.below (fun k hk => by simp at hk; subst hk; exact x0I h.dat _ (by simp [rowOf, Value.ownBlock])) hB, fun k cs hk => hon.block k hk.lt fun hm => ?_⟩
      simp at hm
      subst hm
      obtain ⟨cs', hb'⟩ := x0G h.dat (k := k) rfl
      exact hk.ne_ hb' (by decide) rfl
end
section
open Go.RowKit Go.BigFrame
theorem x2T {ops : Array Oper} {rest : List Oper} {op : Oper} {a : Act} {w : World} {Q : Exit -> Act -> World -> Prop} (hgd : op.guard = none) (x : Operand) (ho : op.op = .load 52 x)
  (g : Nat) (s : StepV) (Dx : Option Addr) (cx : Nat) (hx : a.eval x = .pointer (some ⟨g, 0, none⟩)) (hb : Blk w g 52 (stepC s Dx cx)) (h : wpList Tryz.prog ops Q rest (a.put op.dst (stepVal s Dx cx)) w) : wpList Tryz.prog ops Q (op :: rest) a w :=
 wpList_load_mid hgd 52 x ho g 0 hx [.int .i64 s.kd, .int .i64 s.at_, .int .i64 s.ln, .string (strOf s.nm), .slice Dx s.dt.length cx] _ (Blk.range (by simpa [stepC] using hb)) Tryz.underlying52 (by rfl) (by kernel_rfl) h
structure WBd (W : Wk) : Prop where
 d : W.d.length <= 65536
 a : W.a.length <= 1000000
 t : W.told.length <= 1000000
 v : ∀ k bs, gget W.a k = some bs -> bs.length <= 1000000
set_option maxHeartbeats 8000000 in
theorem xHB {w : World} {B gw gs c ce ct : Nat} {D E T : Option Addr} {av : Value} {kv : KV} {tv : List Value} {W : Wk} (h : WkAt w B gw gs c ce ct D E T av kv tv W) (hB : B <= w.heap.size) (hth : W.th = true) (hbd : WBd W)
  {x : StepV} {Bx cx : Nat} {Dx : Option Addr} (hx : StepIn w x Bx Dx) (hBx : Bx <= B) (hk : 8 <= x.kd /\ x.kd <= 14) :
  Calls Tryz.prog 116 #[.pointer (some ⟨gw, 0, none⟩), stepVal x Dx cx] w (StepTo w B gw gs (insideW W x).1 (errV (insideW W x).2)) := by
 obtain ⟨w1, hw1⟩ : ∃ w1, w1 = w.alloc (.cells #[.int .i64 x.kd, .int .i64 x.at_, .int .i64 x.ln, .string (strOf x.nm), .slice Dx x.dt.length cx] 52) := ⟨_, rfl⟩
 obtain ⟨g3, hg3⟩ : ∃ g3, g3 = w.heap.size := ⟨_, rfl⟩
 have hb1 : Below w.heap.size w w1 := by rw [hw1]; exact (Below.refl _ _).alloc (Nat.le_refl _) _
 have h1 := h.below hb1
 have K1 : Blk w1 g3 52 (stepC x Dx cx) := by rw [hw1, hg3]; exact Blk.new w _ _
 have hx1 := hx.since hb1
 have hsz1 := hb1.size
 have HW1 := kH (kA hw1 hg3)
 have HB1 := kH (hb1.mono hB)
 have q0 : w1.cell? ⟨g3, 0, none⟩ = some (.int .i64 x.kd) := K1.cell 0
 have H1 := kH (kA h1 (kA hx1 hbd))
 have HTH := kH hth
 have HC : Hid (∀ w', Blk w' g3 52 (stepC x Dx cx) -> w'.cell? ⟨g3, 1, none⟩ = some (.int .i64 x.at_) /\ w'.cell? ⟨g3, 2, none⟩ = some (.int .i64 x.ln) /\ w'.cell? ⟨g3, 4, none⟩ = some (.slice Dx x.dt.length cx)) := kH fun w' h => ⟨h.cell 1, h.cell 2, h.cell 4⟩
 have HCE := kH (fun (w' : World) (h : Blk w' g3 52 (stepC x Dx cx)) => h.cell 0)
 have hsv : ∀ x : StepV, stepVal x Dx cx = .agg #[.int .i64 x.kd, .int .i64 x.at_, .int .i64 x.ln, .string (strOf x.nm), .slice Dx x.dt.length cx] := fun _ => rfl
 have hBw1 : B <= w1.heap.size := by omega
 by_cases hatt : x.kd = 11 ∨ x.kd = 12 ∨ x.kd = 14
 ·have HA := kH (xMZ (cx := cx) h1 hBw1 hth hbd.a hbd.t hbd.v hx1 hatt)
  clear h hx hb1 hw1 hth hg3 h1 hx1 hbd HC
  have hkx : x.kd = 11 ∨ x.kd = 12 ∨ x.kd = 14 := hatt
  clear hatt hk
  rw [hsv]
  generalize hkd : x.kd = kd at *
  have HKD := kH hkd
  clear hkd
  go_enter Tryz.func116, Tryz.ntmps116
  rcases hkx with rfl | rfl | rfl
  all_goals
   go_wp2_with (first | rw [<- HW1.out.1, <- HW1.out.2] | (refine x2T rfl (.tmp 3) rfl g3 x Dx cx rfl K1 ?_))
   refine HA.out.mono ?_
   rintro e w2 ⟨rfl, hw2, hb2⟩
   go_wp2
   go_ret
   exact ⟨rfl, hw2, HB1.out.trans hb2⟩
 ·obtain ⟨kd, at_, ln, nm, dt⟩ := x
  dsimp only at *
  have hk' : kd = 8 ∨ kd = 9 ∨ kd = 10 ∨ kd = 13 := by omega
  have HR := kH (xEK kd at_ ln (.string (strOf nm)) Dx dt.length cx hx.dl (by rfl) w1)
  have HNO : Hid (∀ kd, (kd = 8 ∨ kd = 9 ∨ kd = 10 ∨ kd = 13) -> reachesB kd at_ ln dt.length = false -> insideW W ⟨kd, at_, ln, nm, dt⟩ = (W, 1)) := kH fun kd hkd hr => by
   rcases hkd with rfl | rfl | rfl | rfl <;> simp [insideW, hr]
  have hi1 := hx.at2
  have hi2 := hx.ln2
  have hi3 := hx.dl
  dsimp only at hi1 hi2 hi3
  clear h hx hb1 hw1 hth hg3 h1 hx1 hbd hk hatt
  unfold stepVal
  dsimp only
  go_enter Tryz.func116, Tryz.ntmps116
  cases hr : reachesB kd at_ ln dt.length
  ·rw [hr] at HR
   have HRR := kH hr
   clear hr HC HCE
   rcases hk' with rfl | rfl | rfl | rfl
   all_goals
    go_wp2_with (first | rw [<- HW1.out.1, <- HW1.out.2] | (refine x2T rfl (.tmp 3) rfl g3 _ Dx cx rfl K1 ?_))
    refine HR.out.mono ?_
    rintro e w2 ⟨rfl, hb2⟩
    have HB2 := kH hb2
    clear hb2
    go_wp2
    go_ret
    rw [HNO.out _ (by simp) HRR.out]
    exact ⟨rfl, ⟨_, _, _, _, _, _, _, _, _, H1.out.1.below HB2.out⟩, HB1.out.trans (HB2.out.mono hBw1)⟩
  ·rw [hr] at HR
   have HRR := kH hr
   clear hr HNO
   rcases hk' with rfl | rfl | rfl | rfl
   ·obtain ⟨k, rfl⟩ : ∃ k : Nat, at_ = (k : Int) := ⟨at_.toNat, by have := HRR.out; simp [reachesB] at this; omega⟩
    have hkl : k + dt.length <= 65536 := by have := HRR.out; simp [reachesB] at this; omega
    have hin : insideW W ⟨8, (k : Int), ln, nm, dt⟩ = ({W with d := writeB W.d k dt}, 0) := by simp [insideW, HRR.out]
    have HIN := kH hin
    clear hin
    go_wp2_with (first | rw [<- HW1.out.1, <- HW1.out.2] | (refine x2T rfl (.tmp 3) rfl g3 _ Dx cx rfl K1 ?_))
    refine HR.out.mono ?_
    rintro e w2 ⟨rfl, hb2⟩
    have h2 := H1.out.1.below hb2
    have K2 := K1.of (hb2.block _ K1.lt)
    have hbb : Below B w w2 := HB1.out.trans (hb2.mono hBw1)
    have hBw2 : B <= w2.heap.size := by have := hb2.size; omega
    have q00 : w2.cell? ⟨g3, 0, none⟩ = some (.int .i64 8) := K2.cell 0
    have HX2 := kH (H1.out.2.1.since hb2)
    have H2 := kH h2
    have HBB := kH hbb
    clear hb2 h2 hbb HR q0
    go_wp2_with fail
    have hS : Blk w2.drew g3 52 (stepC ⟨8, (k : Int), ln, nm, dt⟩ Dx cx) := K2.drew
    refine x09 (fun w' => Blk w' g3 52 (stepC ⟨8, (k : Int), ln, nm, dt⟩ Dx cx)) 99 (by kernel_rfl) ?_
    refine tS (i := 0) (v := .pointer (some ⟨gw, 0, none⟩)) rfl rfl (by kernel_rfl) (by rfl) (fun w hw => by kernel_rfl) hS ?_
    simp only [Act.put, nB, nC, nD, nE, nF, nG]
    refine tS (i := 1) (v := .pointer (some ⟨gw, 0, none⟩)) rfl rfl (by kernel_rfl) (by rfl) (fun w hw => by kernel_rfl) hS ?_
    simp only [Act.put, nB, nC, nD, nE, nF, nG]
    refine tS (i := 2) (v := .pointer (some ⟨gw, 0, none⟩)) rfl rfl (by kernel_rfl) (by rfl) (fun w hw => by go_simp) hS ?_
    simp only [Act.put, nB, nC, nD, nE, nF, nG]
    refine tS (i := 3) (v := .pointer (some ⟨g3, 1, none⟩)) rfl rfl (by kernel_rfl) (by rfl) (fun w hw => by go_simp) hS ?_
    simp only [Act.put, nB, nC, nD, nE, nF, nG]
    refine tS (i := 4) (v := .int .i64 (k : Int)) rfl rfl (by kernel_rfl) (by rfl) (fun w hw => by have q := (HC.out w hw).1; go_simp) hS ?_
    simp only [Act.put, nB, nC, nD, nE, nF, nG]
    refine tS (i := 5) (v := .pointer (some ⟨g3, 4, none⟩)) rfl rfl (by kernel_rfl) (by rfl) (fun w hw => by go_simp) hS ?_
    simp only [Act.put, nB, nC, nD, nE, nF, nG]
    refine tS (i := 6) (v := .slice Dx dt.length cx) rfl rfl (by kernel_rfl) (by rfl) (fun w hw => by have q := (HC.out w hw).2.2; go_simp) hS ?_
    simp only [Act.put, nB, nC, nD, nE, nF, nG]
    refine x01 (j := 7) (by kernel_rfl) rfl (by rfl) ?_
    simp only [Act.put, nB, nC, nD, nE, nF, nG]
    refine x03 (by kernel_rfl) (xL0 (cx := cx) (H2.out.below (w' := w2.drew) (x08 (Below.refl _ _) 1)) hBw2 (by have := H1.out.2.2.d; omega) (dt := dt) (at_ := k) HX2.out.dat.drew hBx (by omega)) ?_
    rintro e w4 ⟨⟨rfl, hw4, hb4⟩, hst4⟩
    have hS4 : Blk w4 g3 52 (stepC ⟨8, (k : Int), ln, nm, dt⟩ Dx cx) := hS.of (hst4 _ _ hS)
    refine ⟨_, rfl, hS4, ?_⟩
    simp only [Act.put, nB, nC, nD, nE, nF, nG]
    have hfin : StepTo w B gw gs (insideW W ⟨8, (k : Int), ln, nm, dt⟩).1 (errV (insideW W ⟨8, (k : Int), ln, nm, dt⟩).2) (.returned .nilIface) w4 := by
     rw [HIN.out]
     exact ⟨rfl, hw4, HBB.out.trans (x0K hb4)⟩
    clear hw4 hb4 hst4 hS4
    have HFIN := kH hfin
    clear hfin hS
    refine x0V (by kernel_rfl) ?_
    refine NoPanic.normal ?_
    go_wp2
    go_ret
    exact HFIN.out
   ·obtain ⟨k, rfl⟩ : ∃ k : Nat, at_ = (k : Int) := ⟨at_.toNat, by have := HRR.out; simp [reachesB] at this; omega⟩
    obtain ⟨l, rfl⟩ : ∃ l : Nat, ln = (l : Int) := ⟨ln.toNat, by have := HRR.out; simp [reachesB] at this; omega⟩
    have hin : insideW W ⟨9, (k : Int), (l : Int), nm, dt⟩ = ({W with d := zeroB W.d k l}, 0) := by simp [insideW, HRR.out]
    have HIN := kH hin
    clear hin
    go_wp2_with (first | rw [<- HW1.out.1, <- HW1.out.2] | (refine x2T rfl (.tmp 3) rfl g3 _ Dx cx rfl K1 ?_))
    refine HR.out.mono ?_
    rintro e w2 ⟨rfl, hb2⟩
    have h2 := H1.out.1.below hb2
    have K2 := K1.of (hb2.block _ K1.lt)
    have hbb : Below B w w2 := HB1.out.trans (hb2.mono hBw1)
    have hBw2 : B <= w2.heap.size := by have := hb2.size; omega
    have q00 : w2.cell? ⟨g3, 0, none⟩ = some (.int .i64 9) := K2.cell 0
    have HX2 := kH (H1.out.2.1.since hb2)
    have H2 := kH h2
    have HBB := kH hbb
    clear hb2 h2 hbb HR q0
    go_wp2_with fail
    have hS : Blk w2.drew g3 52 (stepC ⟨9, (k : Int), (l : Int), nm, dt⟩ Dx cx) := K2.drew
    refine x09 (fun w' => Blk w' g3 52 (stepC ⟨9, (k : Int), (l : Int), nm, dt⟩ Dx cx)) 99 (by kernel_rfl) ?_
    refine tS (i := 0) (v := .pointer (some ⟨gw, 0, none⟩)) rfl rfl (by kernel_rfl) (by rfl) (fun w hw => by kernel_rfl) hS ?_
    simp only [Act.put, nB, nC, nD, nE, nF, nG]
    refine tS (i := 1) (v := .pointer (some ⟨gw, 0, none⟩)) rfl rfl (by kernel_rfl) (by rfl) (fun w hw => by kernel_rfl) hS ?_
    simp only [Act.put, nB, nC, nD, nE, nF, nG]
    refine tS (i := 2) (v := .pointer (some ⟨gw, 0, none⟩)) rfl rfl (by kernel_rfl) (by rfl) (fun w hw => by go_simp) hS ?_
    simp only [Act.put, nB, nC, nD, nE, nF, nG]
    refine tS (i := 3) (v := .pointer (some ⟨g3, 1, none⟩)) rfl rfl (by kernel_rfl) (by rfl) (fun w hw => by go_simp) hS ?_
    simp only [Act.put, nB, nC, nD, nE, nF, nG]
    refine tS (i := 4) (v := .int .i64 (k : Int)) rfl rfl (by kernel_rfl) (by rfl) (fun w hw => by have q := (HC.out w hw).1; go_simp) hS ?_
    simp only [Act.put, nB, nC, nD, nE, nF, nG]
    refine tS (i := 5) (v := .pointer (some ⟨g3, 2, none⟩)) rfl rfl (by kernel_rfl) (by rfl) (fun w hw => by go_simp) hS ?_
    simp only [Act.put, nB, nC, nD, nE, nF, nG]
    refine tS (i := 6) (v := .int .i64 (l : Int)) rfl rfl (by kernel_rfl) (by rfl) (fun w hw => by have q := (HC.out w hw).2.1; go_simp) hS ?_
    simp only [Act.put, nB, nC, nD, nE, nF, nG]
    refine x01 (j := 7) (by kernel_rfl) rfl (by rfl) ?_
    simp only [Act.put, nB, nC, nD, nE, nF, nG]
    refine x03 (by kernel_rfl) (xDT (w := w2.drew) (H2.out.blk.drew.cell 0) (x22 H2.out.dat).2.2.1 (by have := H1.out.2.2.d; omega) k l (by omega) (by omega)) ?_
    rintro e w3 ⟨rfl, hb3⟩
    have hb3' : Below w2.heap.size w2 w3 := x0K hb3
    have hS3 := hS.of (hb3.block _ hS.lt)
    refine ⟨_, rfl, hS3, ?_⟩
    simp only [Act.put, nB, nC, nD, nE, nF, nG]
    obtain ⟨w4, hrun, hw4, hb4, hst4⟩ := xMQ (H2.out.below hb3') (by have := hb3'.size; omega) k l
    have hS4 : Blk w4 g3 52 (stepC ⟨9, (k : Int), (l : Int), nm, dt⟩ Dx cx) := hS3.of (hst4 _ _ hS3)
    have HRUN := kH hrun
    refine x01 (j := 8) (by kernel_rfl) rfl (by rfl) ?_
    simp only [Act.put, nB, nC, nD, nE, nF, nG]
    refine x0B (v := .tuple #[]) (w' := w4) (by have q := HRUN.out; go_simp) ⟨hS4, ?_⟩
    simp only [Act.put, nB, nC, nD, nE, nF, nG]
    have hfin : StepTo w B gw gs (insideW W ⟨9, (k : Int), (l : Int), nm, dt⟩).1 (errV (insideW W ⟨9, (k : Int), (l : Int), nm, dt⟩).2) (.returned .nilIface) w4 := by
     rw [HIN.out]
     exact ⟨rfl, hw4, (HBB.out.trans (hb3'.mono hBw2)).trans hb4⟩
    clear hw4 hb4 hst4 hS4 hb3 hb3' hS3 hrun
    have HFIN := kH hfin
    clear hfin hS
    refine x0V (by kernel_rfl) ?_
    refine NoPanic.normal ?_
    go_wp2
    go_ret
    exact HFIN.out
   ·obtain ⟨k, rfl⟩ : ∃ k : Nat, at_ = (k : Int) := ⟨at_.toNat, by have := HRR.out; simp [reachesB] at this; omega⟩
    have hkl : k <= 65536 := by have := HRR.out; simp [reachesB] at this; omega
    have hin : insideW W ⟨10, (k : Int), ln, nm, dt⟩ = ({W with d := resizeB W.d k}, 0) := by simp [insideW, HRR.out]
    have HIN := kH hin
    clear hin
    go_wp2_with (first | rw [<- HW1.out.1, <- HW1.out.2] | (refine x2T rfl (.tmp 3) rfl g3 _ Dx cx rfl K1 ?_))
    refine HR.out.mono ?_
    rintro e w2 ⟨rfl, hb2⟩
    have h2 := H1.out.1.below hb2
    have K2 := K1.of (hb2.block _ K1.lt)
    have hbb : Below B w w2 := HB1.out.trans (hb2.mono hBw1)
    have hBw2 : B <= w2.heap.size := by have := hb2.size; omega
    have q00 : w2.cell? ⟨g3, 0, none⟩ = some (.int .i64 10) := K2.cell 0
    have HX2 := kH (H1.out.2.1.since hb2)
    have H2 := kH h2
    have HBB := kH hbb
    clear hb2 h2 hbb HR q0
    go_wp2_with fail
    have hS : Blk w2.drew g3 52 (stepC ⟨10, (k : Int), ln, nm, dt⟩ Dx cx) := K2.drew
    refine x09 (fun w' => Blk w' g3 52 (stepC ⟨10, (k : Int), ln, nm, dt⟩ Dx cx)) 99 (by kernel_rfl) ?_
    refine tS (i := 0) (v := .pointer (some ⟨gw, 0, none⟩)) rfl rfl (by kernel_rfl) (by rfl) (fun w hw => by kernel_rfl) hS ?_
    simp only [Act.put, nB, nC, nD, nE, nF, nG]
    refine tS (i := 1) (v := .pointer (some ⟨gw, 0, none⟩)) rfl rfl (by kernel_rfl) (by rfl) (fun w hw => by kernel_rfl) hS ?_
    simp only [Act.put, nB, nC, nD, nE, nF, nG]
    refine tS (i := 2) (v := .pointer (some ⟨gw, 0, none⟩)) rfl rfl (by kernel_rfl) (by rfl) (fun w hw => by go_simp) hS ?_
    simp only [Act.put, nB, nC, nD, nE, nF, nG]
    refine tS (i := 3) (v := .pointer (some ⟨g3, 1, none⟩)) rfl rfl (by kernel_rfl) (by rfl) (fun w hw => by go_simp) hS ?_
    simp only [Act.put, nB, nC, nD, nE, nF, nG]
    refine tS (i := 4) (v := .int .i64 (k : Int)) rfl rfl (by kernel_rfl) (by rfl) (fun w hw => by have q := (HC.out w hw).1; go_simp) hS ?_
    simp only [Act.put, nB, nC, nD, nE, nF, nG]
    refine x01 (j := 5) (by kernel_rfl) rfl (by rfl) ?_
    simp only [Act.put, nB, nC, nD, nE, nF, nG]
    refine x03 (by kernel_rfl) (xJ6 (H2.out.below (w' := w2.drew) (x08 (Below.refl _ _) 1)) hBw2 (by have := H1.out.2.2.d; omega) (n := k) (by omega)) ?_
    rintro e w4 ⟨⟨rfl, hw4, hb4⟩, hst4⟩
    have hS4 : Blk w4 g3 52 (stepC ⟨10, (k : Int), ln, nm, dt⟩ Dx cx) := hS.of (hst4 _ _ hS)
    refine ⟨_, rfl, hS4, ?_⟩
    simp only [Act.put, nB, nC, nD, nE, nF, nG]
    have hfin : StepTo w B gw gs (insideW W ⟨10, (k : Int), ln, nm, dt⟩).1 (errV (insideW W ⟨10, (k : Int), ln, nm, dt⟩).2) (.returned .nilIface) w4 := by
     rw [HIN.out]
     exact ⟨rfl, hw4, HBB.out.trans (x0K hb4)⟩
    clear hw4 hb4 hst4 hS4
    have HFIN := kH hfin
    clear hfin hS
    refine x0V (by kernel_rfl) ?_
    refine NoPanic.normal ?_
    go_wp2
    go_ret
    exact HFIN.out
   ·obtain ⟨k, rfl⟩ : ∃ k : Nat, at_ = (k : Int) := ⟨at_.toNat, by have := HRR.out; simp [reachesB] at this; omega⟩
    obtain ⟨l, rfl⟩ : ∃ l : Nat, ln = (l : Int) := ⟨ln.toNat, by have := HRR.out; simp [reachesB] at this; omega⟩
    have hin : insideW W ⟨13, (k : Int), (l : Int), nm, dt⟩ = ({W with told := W.told ++ [partB W.d k l]}, 0) := by simp [insideW, HRR.out]
    have HIN := kH hin
    clear hin
    go_wp2_with (first | rw [<- HW1.out.1, <- HW1.out.2] | (refine x2T rfl (.tmp 3) rfl g3 _ Dx cx rfl K1 ?_))
    refine HR.out.mono ?_
    rintro e w2 ⟨rfl, hb2⟩
    have h2 := H1.out.1.below hb2
    have K2 := K1.of (hb2.block _ K1.lt)
    have hbb : Below B w w2 := HB1.out.trans (hb2.mono hBw1)
    have hBw2 : B <= w2.heap.size := by have := hb2.size; omega
    have q00 : w2.cell? ⟨g3, 0, none⟩ = some (.int .i64 13) := K2.cell 0
    have HX2 := kH (H1.out.2.1.since hb2)
    have H2 := kH h2
    have HBB := kH hbb
    clear hb2 h2 hbb HR q0
    go_wp2_with fail
    have hS : Blk w2.drew g3 52 (stepC ⟨13, (k : Int), (l : Int), nm, dt⟩ Dx cx) := K2.drew
    refine x09 (fun w' => Blk w' g3 52 (stepC ⟨13, (k : Int), (l : Int), nm, dt⟩ Dx cx)) 99 (by kernel_rfl) ?_
    refine tS (i := 0) (v := .pointer (some ⟨gw, 0, none⟩)) rfl rfl (by kernel_rfl) (by rfl) (fun w hw => by kernel_rfl) hS ?_
    simp only [Act.put, nB, nC, nD, nE, nF, nG]
    refine tS (i := 1) (v := .pointer (some ⟨gw, 0, none⟩)) rfl rfl (by kernel_rfl) (by rfl) (fun w hw => by kernel_rfl) hS ?_
    simp only [Act.put, nB, nC, nD, nE, nF, nG]
    refine tS (i := 2) (v := .pointer (some ⟨gw, 0, none⟩)) rfl rfl (by kernel_rfl) (by rfl) (fun w hw => by kernel_rfl) hS ?_
    simp only [Act.put, nB, nC, nD, nE, nF, nG]
    refine tS (i := 3) (v := .pointer (some ⟨gw, 0, none⟩)) rfl rfl (by kernel_rfl) (by rfl) (fun w hw => by go_simp) hS ?_
    simp only [Act.put, nB, nC, nD, nE, nF, nG]
    refine tS (i := 4) (v := .pointer (some ⟨g3, 1, none⟩)) rfl rfl (by kernel_rfl) (by rfl) (fun w hw => by go_simp) hS ?_
    simp only [Act.put, nB, nC, nD, nE, nF, nG]
    refine tS (i := 5) (v := .int .i64 (k : Int)) rfl rfl (by kernel_rfl) (by rfl) (fun w hw => by have q := (HC.out w hw).1; go_simp) hS ?_
    simp only [Act.put, nB, nC, nD, nE, nF, nG]
    refine tS (i := 6) (v := .pointer (some ⟨g3, 2, none⟩)) rfl rfl (by kernel_rfl) (by rfl) (fun w hw => by go_simp) hS ?_
    simp only [Act.put, nB, nC, nD, nE, nF, nG]
    refine tS (i := 7) (v := .int .i64 (l : Int)) rfl rfl (by kernel_rfl) (by rfl) (fun w hw => by have q := (HC.out w hw).2.1; go_simp) hS ?_
    simp only [Act.put, nB, nC, nD, nE, nF, nG]
    refine x01 (j := 8) (by kernel_rfl) rfl (by rfl) ?_
    simp only [Act.put, nB, nC, nD, nE, nF, nG]
    refine x03 (by kernel_rfl) (xDT (w := w2.drew) (H2.out.blk.drew.cell 0) (x22 H2.out.dat).2.2.1 (by have := H1.out.2.2.d; omega) k l (by omega) (by omega)) ?_
    rintro e w3 ⟨rfl, hb3⟩
    have hb3' : Below w2.heap.size w2 w3 := x0K hb3
    have hS3 := hS.of (hb3.block _ hS.lt)
    refine ⟨_, rfl, hS3, ?_⟩
    simp only [Act.put, nB, nC, nD, nE, nF, nG]
    have h3 := H2.out.below hb3'
    obtain ⟨A2, hpv, hpb, -⟩ := x9C (h3.dat.bytes h3.ok) (x22 h3.dat).2.2.1 k l
    have hpl : (partB W.d k l).length <= 1000000 := by have := H1.out.2.2.d; unfold partB; simp <;> omega
    have hT := xDW (nx := 0) (cx := c - partA W.d.length k) h3 (by have := hb3'.size; omega) H1.out.2.2.t hpb hpl
    rw [<- hpv] at hT
    have hT4 := hT
    refine x01 (j := 9) (by kernel_rfl) rfl (by rfl) ?_
    simp only [Act.put, nB, nC, nD, nE, nF, nG]
    refine x03 (by kernel_rfl) hT ?_
    rintro e w4 ⟨⟨rfl, hw4, hb4⟩, hst4⟩
    have hS4 : Blk w4 g3 52 (stepC ⟨13, (k : Int), (l : Int), nm, dt⟩ Dx cx) := hS3.of (hst4 _ _ hS3)
    refine ⟨_, rfl, hS4, ?_⟩
    simp only [Act.put, nB, nC, nD, nE, nF, nG]
    have hfin : StepTo w B gw gs (insideW W ⟨13, (k : Int), (l : Int), nm, dt⟩).1 (errV (insideW W ⟨13, (k : Int), (l : Int), nm, dt⟩).2) (.returned .nilIface) w4 := by
     rw [HIN.out]
     exact ⟨rfl, hw4, (HBB.out.trans (hb3'.mono hBw2)).trans hb4⟩
    clear hw4 hb4 hst4 hS4 hb3 hb3' hS3 h3 hpv hpb hpl hT hT4
    have HFIN := kH hfin
    clear hfin hS
    refine x0V (by kernel_rfl) ?_
    refine NoPanic.normal ?_
    go_wp2
    go_ret
    exact HFIN.out
end
section
open Go.RowKit Go.BigFrame
set_option maxHeartbeats 8000000 in
theorem xO8 {w : World} {B gw gs c ce ct : Nat} {D E T : Option Addr} {av : Value} {kv : KV} {tv : List Value} {W : Wk} (h : WkAt w B gw gs c ce ct D E T av kv tv W) (hB : B <= w.heap.size) (hbd : WBd W)
  {x : StepV} {Bx cx : Nat} {Dx : Option Addr} (hx : StepIn w x Bx Dx) (hBx : Bx <= B) {bl : List Bool}
  (hbl : ∀ w', Below w.heap.size w w' -> Calls Tryz.prog 165 #[.pointer (some ⟨gs, 0, none⟩), .int .i64 x.at_] w' fun e w'' => e = .returned (.bool (isClientB x.at_ && bl.getD x.at_.toNat false)) /\ w' = w'') :
  Calls Tryz.prog 65 #[.pointer (some ⟨gw, 0, none⟩), stepVal x Dx cx] w (StepTo w B gw gs (stepW bl W x).1 (errV (stepW bl W x).2)) := by
 obtain ⟨w1, hw1⟩ : ∃ w1, w1 = w.alloc (.cells #[.int .i64 x.kd, .int .i64 x.at_, .int .i64 x.ln, .string (strOf x.nm), .slice Dx x.dt.length cx] 52) := ⟨_, rfl⟩
 obtain ⟨g3, hg3⟩ : ∃ g3, g3 = w.heap.size := ⟨_, rfl⟩
 have hb1 : Below w.heap.size w w1 := by rw [hw1]; exact (Below.refl _ _).alloc (Nat.le_refl _) _
 have h1 := h.below hb1
 have K1 : Blk w1 g3 52 (stepC x Dx cx) := by rw [hw1, hg3]; exact Blk.new w _ _
 have hx1 := hx.since hb1
 have hsz1 := hb1.size
 have HW1 := kH (kA hw1 hg3)
 have HB1 := kH (hb1.mono hB)
 have q0 : w1.cell? ⟨g3, 0, none⟩ = some (.int .i64 x.kd) := K1.cell 0
 have q3 : w1.cell? ⟨gw, 3, none⟩ = some (.bool W.th) := h1.blk.cell 3
 have H1 := kH h1
 have hBw1 : B <= w1.heap.size := by omega
 have hsv : stepVal x Dx cx = .agg #[.int .i64 x.kd, .int .i64 x.at_, .int .i64 x.ln, .string (strOf x.nm), .slice Dx x.dt.length cx] := rfl
 have hbl1 : ∀ w', Below w1.heap.size w1 w' -> Calls Tryz.prog 165 #[.pointer (some ⟨gs, 0, none⟩), .int .i64 x.at_] w' fun e w'' => e = .returned (.bool (isClientB x.at_ && bl.getD x.at_.toNat false)) /\ w' = w'' := fun w' hb' => hbl w' (hb1.trans (hb'.mono hb1.size))
 by_cases c1 : 1 <= x.kd /\ x.kd <= 5
 ·have HN := kH (xG8 (cx := cx) h1 hx1 c1.1 c1.2 hbl1)
  have hst : stepW bl W x = (W, needW bl W x) := by unfold stepW; rw [if_pos c1]
  have HST := kH hst
  have hkd : x.kd = 1 ∨ x.kd = 2 ∨ x.kd = 3 ∨ x.kd = 4 ∨ x.kd = 5 := by omega
  clear h hx hb1 hw1 hg3 h1 hx1 hbd hbl hbl1 hst c1
  rw [hsv] at HN ⊢
  generalize hke : x.kd = kd at *
  have HKE := kH hke
  clear hke
  go_enter Tryz.func65, Tryz.ntmps65
  rcases hkd with rfl | rfl | rfl | rfl | rfl
  all_goals
   go_wp2_with fail
   rw [<- HW1.out.1]
   refine HN.out.mono ?_
   rintro e w2 ⟨rfl, hb2⟩
   go_wp2
   go_ret
   rw [HST.out]
   exact ⟨rfl, ⟨_, _, _, _, _, _, _, _, _, H1.out.below hb2⟩, HB1.out.trans (hb2.mono hBw1)⟩
 by_cases c6 : x.kd = 6
 ·have HN := kH (x99 h1 hBw1 true)
  have hst : stepW bl W x = (becomeW W true, 0) := by unfold stepW; rw [if_neg c1, if_pos c6]
  have HST := kH hst
  clear h hx hb1 hw1 hg3 h1 hx1 hbd hbl hbl1 hst c1
  rw [hsv]
  generalize hke : x.kd = kd at *
  clear hke
  subst c6
  go_enter Tryz.func65, Tryz.ntmps65
  go_wp2_with (first | rw [<- HW1.out.1, <- HW1.out.2])
  refine HN.out.mono ?_
  rintro e w2 ⟨rfl, hw2, hb2⟩
  go_wp2
  go_ret
  rw [HST.out]
  exact ⟨rfl, hw2, HB1.out.trans hb2⟩
 by_cases c7 : x.kd = 7
 ·have HN := kH (x99 h1 hBw1 false)
  have hst : stepW bl W x = (becomeW W false, 0) := by unfold stepW; rw [if_neg c1, if_neg c6, if_pos c7]
  have HST := kH hst
  clear h hx hb1 hw1 hg3 h1 hx1 hbd hbl hbl1 hst c1 c6
  rw [hsv]
  generalize hke : x.kd = kd at *
  clear hke
  subst c7
  go_enter Tryz.func65, Tryz.ntmps65
  go_wp2_with (first | rw [<- HW1.out.1, <- HW1.out.2])
  refine HN.out.mono ?_
  rintro e w2 ⟨rfl, hw2, hb2⟩
  go_wp2
  go_ret
  rw [HST.out]
  exact ⟨rfl, hw2, HB1.out.trans hb2⟩
 by_cases c8 : 8 <= x.kd /\ x.kd <= 14
 ·cases hth : W.th
  ·have hst : stepW bl W x = (W, 6) := by unfold stepW; rw [if_neg c1, if_neg c6, if_neg c7, if_pos c8, hth]; rfl
   have HST := kH hst
   rw [hth] at q3
   have q3a := q3
   rw [hw1] at q3a
   have hkd : x.kd = 8 ∨ x.kd = 9 ∨ x.kd = 10 ∨ x.kd = 11 ∨ x.kd = 12 ∨ x.kd = 13 ∨ x.kd = 14 := by omega
   clear h hx hb1 hw1 hg3 h1 hx1 hbd hbl hbl1 hst c1 c6 c7 c8
   rw [hsv]
   generalize hke : x.kd = kd at *
   clear hke
   go_enter Tryz.func65, Tryz.ntmps65
   rcases hkd with rfl | rfl | rfl | rfl | rfl | rfl | rfl
   all_goals
    go_wp2_with (first | rw [<- HW1.out.1, <- HW1.out.2])
    go_ret
    rw [HST.out]
    exact ⟨rfl, ⟨_, _, _, _, _, _, _, _, _, H1.out⟩, HB1.out⟩
  ·have HN := kH (xHB (cx := cx) h1 hBw1 hth hbd hx1 hBx c8)
   have hst : stepW bl W x = insideW W x := by unfold stepW; rw [if_neg c1, if_neg c6, if_neg c7, if_pos c8, hth]; rfl
   have HST := kH hst
   rw [hth] at q3
   have q3a := q3
   rw [hw1] at q3a
   have hkd : x.kd = 8 ∨ x.kd = 9 ∨ x.kd = 10 ∨ x.kd = 11 ∨ x.kd = 12 ∨ x.kd = 13 ∨ x.kd = 14 := by omega
   clear h hx hb1 hw1 hg3 h1 hx1 hbd hbl hbl1 hst c1 c6 c7 c8
   rw [hsv] at HN ⊢
   generalize hke : x.kd = kd at *
   have HKE := kH hke
   clear hke
   go_enter Tryz.func65, Tryz.ntmps65
   rcases hkd with rfl | rfl | rfl | rfl | rfl | rfl | rfl
   all_goals
    go_wp2_with fail
    rw [<- HW1.out.1]
    refine HN.out.mono ?_
    rintro e w2 ⟨rfl, hw2, hb2⟩
    go_wp2
    go_ret
    rw [HST.out]
    exact ⟨rfl, hw2, HB1.out.trans hb2⟩
 ·have hst : stepW bl W x = (W, 2) := by unfold stepW; rw [if_neg c1, if_neg c6, if_neg c7, if_neg c8]
  have HST := kH hst
  have d1 : (x.kd == 1) = false := beq_eq_false_iff_ne.2 (by omega)
  have d2 : (x.kd == 2) = false := beq_eq_false_iff_ne.2 (by omega)
  have d3 : (x.kd == 3) = false := beq_eq_false_iff_ne.2 (by omega)
  have d4 : (x.kd == 4) = false := beq_eq_false_iff_ne.2 (by omega)
  have d5 : (x.kd == 5) = false := beq_eq_false_iff_ne.2 (by omega)
  have d6 : (x.kd == 6) = false := beq_eq_false_iff_ne.2 (by omega)
  have d7 : (x.kd == 7) = false := beq_eq_false_iff_ne.2 (by omega)
  have d8 : (x.kd == 8) = false := beq_eq_false_iff_ne.2 (by omega)
  have d9 : (x.kd == 9) = false := beq_eq_false_iff_ne.2 (by omega)
  have d10 : (x.kd == 10) = false := beq_eq_false_iff_ne.2 (by omega)
  have d11 : (x.kd == 11) = false := beq_eq_false_iff_ne.2 (by omega)
  have d12 : (x.kd == 12) = false := beq_eq_false_iff_ne.2 (by omega)
  have d13 : (x.kd == 13) = false := beq_eq_false_iff_ne.2 (by omega)
  have d14 : (x.kd == 14) = false := beq_eq_false_iff_ne.2 (by omega)
  clear h hx hb1 hw1 hg3 h1 hx1 hbd hbl hbl1 hst c1 c6 c7 c8
  rw [hsv]
  go_enter Tryz.func65, Tryz.ntmps65
  go_wp2
  go_ret
  rw [HST.out, <- HW1.out.1]
  exact ⟨rfl, ⟨_, _, _, _, _, _, _, _, _, H1.out⟩, HB1.out⟩
end
section
open Go.RowKit Go.BigFrame
theorem xK8 {a b : List (Nat × Nat)} (h : natE a = natE b) : a = b := by
 unfold natE at h
 exact List.map_inj_right (fun x y e => by
  obtain ⟨x1, x2⟩ := x
  obtain ⟨y1, y2⟩ := y
  simp at e
  simp
  omega) |>.1 h
def foot (g r : Nat) (fl : List Bool) : List Nat := if fl = [] then [g] else [g, r]
theorem x1Q {g r k : Nat} {fl : List Bool} (h : k ∈ foot g r fl) : k = g ∨ (fl ≠ [] /\ k = r) := by
 unfold foot at h
 split at h
 ·simp at h; exact .inl h
 ·rename_i hf
  simp at h
  rcases h with h | h
  ·exact .inl h
  ·exact .inr ⟨hf, h⟩
theorem SAt.foot_typed {w : World} {g r c : Nat} {A : Option Addr} {fl : List Bool} {left : Int} (h : SAt w g r A c fl left) {k : Nat} (hk : k ∈ foot g r fl) : ∃ t cs, Blk w k t cs /\ (t = 190 ∨ t = 4) := by
 rcases x1Q hk with rfl | ⟨hf, rfl⟩
 ·exact ⟨_, _, h.blk, .inl rfl⟩
 ·rcases h.row with e | ⟨_, cs, hb, _⟩
  ·exact absurd e hf
  ·exact ⟨_, cs, hb, .inr rfl⟩
theorem SAt.foot_odd {w : World} {g r c : Nat} {A : Option Addr} {fl : List Bool} {left : Int} (h : SAt w g r A c fl left) {e : TypeId} (h1 : e ≠ 190) (h2 : e ≠ 4) {k : Nat} (hk : k ∈ foot g r fl) : Odd w e k := by
 obtain ⟨t, cs, hb, rfl | rfl⟩ := h.foot_typed hk
 ·exact Odd.blk hb h1.symm
 ·exact Odd.blk hb h2.symm
theorem SAt.foot_lt {w : World} {g r c : Nat} {A : Option Addr} {fl : List Bool} {left : Int} (h : SAt w g r A c fl left) {k : Nat} (hk : k ∈ foot g r fl) : k < w.heap.size := by
 obtain ⟨t, cs, hb, _⟩ := h.foot_typed hk
 exact hb.lt
theorem xAZ {w w' : World} {g r : Nat} (h : Only [g, w.heap.size] w w') : Only (foot g r []) w w' := ⟨h.os, h.tape, h.output, h.size, fun i hi hn => h.block i hi (by simp [foot] at hn ⊢; omega)⟩
theorem x3N {w w' : World} {g r : Nat} {fl : List Bool} (hf : fl ≠ []) (h : Only [g, r] w w') : Only (foot g r fl) w w' := by unfold foot; rw [if_neg hf]; exact h
theorem SAt.rest {w : World} {g r r' c : Nat} {A : Option Addr} {left : Int} {fl : List Bool} (h : SAt w g r A c fl left) (e : fl = []) : SAt w g r' A c fl left := ⟨h.blk, h.cap, h.lim, .inl e⟩
def TakeF (w : World) (g r c : Nat) (A : Option Addr) (fl : List Bool) (n : Nat) (e : Ending) (w' : World) : Prop :=
  Only (foot g r fl) w w' ∧
  ((cnt fl < n /\ e = .returned (.tuple #[.slice none 0 0, errV 4]) /\ SAt w' g r A c fl (cnt fl)) ∨
   (∃ (v : Value) (out : List (Nat × Nat)), n <= cnt fl /\ e = .returned (.tuple #[v, .nilIface]) /\ OwnE w' w.heap.size v (natE out) /\ Chosen (hol 0 fl) n out /\ SAt w' g r A c (setA fl out false) (cnt (setA fl out false))))
theorem xIG {w : World} {g r c : Nat} {A : Option Addr} {fl : List Bool} (n : Nat) (h : SAt w g r A c fl (cnt fl)) (hgr : g ≠ r) :
  Calls Tryz.prog 176 #[.pointer (some ⟨g, 0, none⟩), .int .i64 n] w (TakeF w g r c A fl n) := by
 by_cases hf : fl = []
 ·subst hf
  refine (xAW (r := w.heap.size) n (h.rest rfl) (by have := h.blk.lt; omega)).mono ?_
  rintro e w' ⟨ho, ⟨h1, _⟩ | ⟨h1, rfl, hs⟩ | ⟨k, v, out, h1, hk, rfl, hv, hc, hs⟩⟩
  ·omega
  ·exact ⟨xAZ ho, .inl ⟨by omega, rfl, hs.rest rfl⟩⟩
  ·obtain rfl : n = k := by omega
   have hk0 : n = 0 := by simp [cnt] at hk; omega
   have : out = [] := by rw [hk0] at hc; exact hc.zero
   subst this
   exact ⟨xAZ ho, .inr ⟨v, [], hk, rfl, hv, hc, hs.rest rfl⟩⟩
 ·refine (xAW n h hgr).mono ?_
  rintro e w' ⟨ho, ⟨h1, _⟩ | ⟨h1, rfl, hs⟩ | ⟨k, v, out, h1, hk, rfl, hv, hc, hs⟩⟩
  ·omega
  ·exact ⟨x3N hf ho, .inl ⟨by omega, rfl, hs⟩⟩
  ·obtain rfl : n = k := by omega
   exact ⟨x3N hf ho, .inr ⟨v, out, hk, rfl, hv, hc, hs⟩⟩
theorem xJ8 {w : World} {g r c B : Nat} {A : Option Addr} {fl : List Bool} (es : List (Nat × Nat)) (hI : ∀ e ∈ es, 1 <= e.2 /\ e.1 <= 65536 /\ e.2 <= 65536) (hok : OkA fl es true) (h : SAt w g r A c fl (cnt fl)) (hgr : g ≠ r) (E : Option Addr) (c' : Nat) (hc' : es.length <= c') (hR : ExtR w B E (natE es)) (hB : B <= w.heap.size)
    (hfar : ∀ ad, E = some ad -> ad.block ∉ foot g r fl) (hle : es.length <= 65536) :
    Calls Tryz.prog 174 #[.pointer (some ⟨g, 0, none⟩), .slice E es.length c'] w fun e w' => e = .returned .nilIface /\ Only (foot g r fl) w w' /\ SAt w' g r A c (setA fl es true) (cnt (setA fl es true)) := by
  have hturn : TurnOk fl (natE es) true es := ⟨rfl, fun e he => (hI e he).1, hok⟩
  have hI2 : ∀ e ∈ natE es, InI e := fun e he => by
    simp only [natE, List.mem_map] at he
    obtain ⟨q, hq, rfl⟩ := he
    have := hI q hq
    simp only [InI]
    omega
  have hnl : (natE es).length = es.length := x0R es
  have post : ∀ (r' : Nat), (fl = [] ∨ r' = r) -> ∀ e w', TurnTo w g r' c A fl (natE es) true e w' -> Only (foot g r fl) w w' -> e = .returned .nilIface /\ Only (foot g r fl) w w' /\ SAt w' g r A c (setA fl es true) (cnt (setA fl es true)) := by
    rintro r' hr' e w' ⟨ho, ⟨ns, hns, rfl, hs⟩ | ⟨hno, _⟩⟩ hof
    · obtain rfl : ns = es := xK8 (hns.1.symm.trans hturn.1)
      refine ⟨rfl, hof, ?_⟩
      rcases hr' with e | e
      · exact hs.rest (List.eq_nil_of_length_eq_zero (by rw [hok.len, e]; rfl))
      · subst e; exact hs
    · exact absurd hturn (hno _)
  by_cases hf : fl = []
  · obtain ⟨eb, heb⟩ : ∃ eb, ∀ ad, E = some ad -> ad.block = eb := by
      cases E with
      | none => exact ⟨0, fun ad e => by cases e⟩
      | some a => exact ⟨a.block, fun ad e => by injection e with e; rw [e]⟩
    have := xBB (r := w.heap.size + g + eb + 1) (natE es) hI2 (h.rest hf) (by omega) E c' (by rw [hnl]; exact hc') hR hB (fun ad e => ⟨by have := hfar ad e; simp [foot, hf] at this; exact this, by have := heb ad e; omega⟩) (by rw [hnl]; exact hle)
    rw [hnl] at this
    refine this.mono fun e w' ht => post _ (.inl hf) e w' ht ?_
    subst hf
    exact ⟨ht.1.os, ht.1.tape, ht.1.output, ht.1.size, fun i hi hn => ht.1.block i hi (by simp [foot] at hn ⊢; omega)⟩
  · have := xBB (natE es) hI2 h hgr E c' (by rw [hnl]; exact hc') hR hB (fun ad e => by have := hfar ad e; simp [foot, hf] at this; exact this) (by rw [hnl]; exact hle)
    rw [hnl] at this
    exact this.mono fun e w' ht => post _ (.inr rfl) e w' ht (x3N hf ht.1)
theorem xKL (a b : List (Nat × Nat)) : natE (a ++ b) = natE a ++ natE b := by simp [natE]
def FitTo (w0 w : World) (gw gs ms gp r c : Nat) (A : Option Addr) (bl fl : List Bool) (kvs : KV) (W : Wk) (e : Ending) (w' : World) : Prop :=
  Only (foot gp r fl) w0 w' /\ w.heap.size <= w'.heap.size /\ ∃ es fl' k, FitR fl W es fl' k /\ e = .returned (errV k) /\ StAt w' gs ms gp r c A bl fl' kvs /\ Wkd w' w0.heap.size gw gs {W with e := es}
theorem WkAt.exts {w w' : World} {B gw gs c ce ct : Nat} {D E T : Option Addr} {av : Value} {kv : KV} {tv : List Value} {W : Wk} (h : WkAt w B gw gs c ce ct D E T av kv tv W) {G : List Nat} {E' : Option Addr} {m ce' : Nat} {es : List (Nat × Nat)} (hm : m = es.length)
  (hb : Blk w' gw 139 ((workC D W.d.length c av E W.e.length ce W.th T W.told.length ct gs).setIfInBounds 2 (.slice E' m ce'))) (ho : OwnE w' B (.slice E' m ce') (natE es)) (hon : Only G w w') (hG : ∀ k ∈ G, k < w.heap.size -> Odd w 5 k /\ Odd w 35 k /\ (∀ mb, av = .map (some mb) -> k ≠ mb)) : Wkd w' B gw gs {W with e := es} := by
 subst hm
 have hu : ∀ {base size n : Nat} {e : TypeId} {v : Value} {xs : List Value}, w.ownsRow base e size v n xs -> (∀ k ∈ G, k < w.heap.size -> Odd w e k) -> w'.ownsRow base e size v n xs := fun h1 hx => x12 h1 hon fun k hk hm => by
  obtain ⟨cs, hb⟩ := x0G h1 (x00.1 hk)
  exact hx k hm (x02 h1 k hk) cs hb
 have hrow : ∀ {base : Nat} {F : List Nat} {u : Value} {bs : List Nat}, RowR w base F u bs -> RowR w' base F u bs := fun hr => by
  obtain ⟨A, c, e, h1, h2, h3⟩ := hr
  exact ⟨A, c, e, hu h1 fun k hk hl => (hG k hk hl).1, h2, h3⟩
 refine ⟨c, ce', ct, D, E', T, av, kv, tv, ⟨hb, h.gB, hu h.dat fun k hk hl => (hG k hk hl).1, h.ok, ?_, h.att.imp fun a b hr => ⟨hr.1, hrow hr.2⟩, ho, hu h.tol fun k hk hl => (hG k hk hl).2.1, h.els.imp fun a b hr => hrow hr⟩⟩
 rcases h.map with e | ⟨mb, e, h1, h2⟩
 ·exact .inl e
 ·exact .inr ⟨mb, e, h1, h2.of (hon.block mb h2.lt fun hm => (hG mb hm h2.lt).2.2 mb e rfl)⟩
theorem StAt.turned {w w' : World} {gs ms gp r c : Nat} {A : Option Addr} {bl fl fl' : List Bool} {kv : KV} (h : StAt w gs ms gp r c A bl fl kv) {G : List Nat} (ho : Only G w w') (hs : gs ∉ G) (hm : ms ∉ G) (hsp : SAt w' gp r A c fl' (cnt fl')) : StAt w' gs ms gp r c A bl fl' kv :=
  ⟨h.blk.of (ho.block _ h.blk.lt hs), h.len, h.map.of (ho.block _ h.map.lt hm), hsp, h.ne⟩
set_option maxHeartbeats 8000000 in
theorem xO2 {w0 w : World} {gw gs ms gp r c1 : Nat} {A1 : Option Addr} {bl fl : List Bool} {kvs : KV} {c ce ct : Nat} {D E T : Option Addr} {av : Value} {kv : KV} {tv : List Value} {W : Wk} (h : WkAt w w0.heap.size gw gs c ce ct D E T av kv tv W) (hb0 : Below w0.heap.size w0 w)
    (hst0 : StAt w0 gs ms gp r c1 A1 bl fl kvs) (hd : W.d.length <= 65536) (hpos : ∀ e ∈ W.e, 1 <= e.2 /\ e.1 <= 65536 /\ e.2 <= 65536) (hle : lens W.e <= 65536) (hel : W.e.length <= 65536) (hgv : needsB W.d < lens W.e -> OkA fl (shedR W.e.reverse (lens W.e - needsB W.d)).2 true /\ (∀ e ∈ (shedR W.e.reverse (lens W.e - needsB W.d)).2, 1 <= e.2 /\ e.1 <= 65536 /\ e.2 <= 65536) /\ (shedR W.e.reverse (lens W.e - needsB W.d)).2.length <= 65536) :
    Calls Tryz.prog 117 #[.pointer (some ⟨gw, 0, none⟩)] w (FitTo w0 w gw gs ms gp r c1 A1 bl fl kvs W) := by
  have hst := hst0.below hb0
  have hs0 := hb0.size
  have hneed : needsB W.d <= 4096 := by unfold needsB; omega
  have c5 : w.cell? ⟨gw, 5, none⟩ = some (.pointer (some ⟨gs, 0, none⟩)) := h.blk.cell 5
  have q9 := hst.c9
  have HH := kH (kA h (kA hb0 (kA hst0 hst)))
  have HP := kH (kA hpos hgv)
  have HHAS : Hid (∀ w', Below w.heap.size w w' -> Calls Tryz.prog 172 #[.pointer (some ⟨gw, 0, none⟩)] w' fun e w'' => e = .returned (.int .i64 (lens W.e)) /\ Below w'.heap.size w' w'') := kH fun w' hb => by
    have h' := h.below hb
    exact xBE (g := gw) (h'.blk.cell 2) (OwnE.ext (by rw [x0R]; exact h'.ext)) (Nat.le_refl _) (by omega) (by omega)
  have HNEED : Hid (∀ w', Below w.heap.size w w' -> Calls Tryz.prog 173 #[.pointer (some ⟨gw, 0, none⟩)] w' fun e w'' => e = .returned (.int .i64 (needsB W.d : Nat)) /\ w' = w'') := kH fun w' hb => xB7 (g := gw) ((h.below hb).blk.cell 0) (by omega)
  have hgl : gp < w0.heap.size := hst0.sp.blk.lt
  clear h hb0 hst0 hst hpos hgv
  go_enter Tryz.func117, Tryz.ntmps117
  go_upto_region 2 with (fail)
  refine x09 (fun _ => True) 99 (by kernel_rfl) ?_
  refine tS (i := 0) (v := .pointer (some ⟨gw, 0, none⟩)) rfl rfl (by kernel_rfl) (by rfl) (fun w hw => by kernel_rfl) trivial ?_
  simp only [Act.put, nB, nC, nD, nE, nF, nG]
  refine tS (i := 1) (v := .pointer (some ⟨gw, 0, none⟩)) rfl rfl (by kernel_rfl) (by rfl) (fun w hw => by kernel_rfl) trivial ?_
  simp only [Act.put, nB, nC, nD, nE, nF, nG]
  refine tS (i := 2) (v := .pointer (some ⟨gw, 0, none⟩)) rfl rfl (by kernel_rfl) (by rfl) (fun w hw => by go_simp) trivial ?_
  simp only [Act.put, nB, nC, nD, nE, nF, nG]
  refine tS (i := 4) (v := .pointer (some ⟨gw, 0, none⟩)) rfl rfl (by kernel_rfl) (by rfl) (fun w hw => by kernel_rfl) trivial ?_
  simp only [Act.put, nB, nC, nD, nE, nF, nG]
  refine tS (i := 5) (v := .pointer (some ⟨gw, 0, none⟩)) rfl rfl (by kernel_rfl) (by rfl) (fun w hw => by kernel_rfl) trivial ?_
  simp only [Act.put, nB, nC, nD, nE, nF, nG]
  refine tS (i := 6) (v := .pointer (some ⟨gw, 0, none⟩)) rfl rfl (by kernel_rfl) (by rfl) (fun w hw => by go_simp) trivial ?_
  simp only [Act.put, nB, nC, nD, nE, nF, nG]
  refine x01 (j := 3) (by kernel_rfl) rfl (by rfl) ?_
  simp only [Act.put, nB, nC, nD, nE, nF, nG]
  refine x03 (by kernel_rfl) (HHAS.out w.drew (x08 (Below.refl _ _) 1)) ?_
  rintro e w1 ⟨rfl, hb1⟩
  have hb1' : Below w.heap.size w w1 := x0K hb1
  refine ⟨_, rfl, trivial, ?_⟩
  simp only [Act.put, nB, nC, nD, nE, nF, nG]
  refine x01 (j := 7) (by kernel_rfl) rfl (by rfl) ?_
  simp only [Act.put, nB, nC, nD, nE, nF, nG]
  refine x03 (by kernel_rfl) (HNEED.out w1 hb1') ?_
  rintro e w2 ⟨rfl, rfl⟩
  refine ⟨_, rfl, trivial, ?_⟩
  simp only [Act.put, nB, nC, nD, nE, nF, nG]
  have hwr : IntKind.i64.wrap ((lens W.e : Int) - (needsB W.d : Int)) = (lens W.e : Int) - (needsB W.d : Int) := by rw [IntKind.wrap_i64]; omega
  refine x01 (j := 8) (by kernel_rfl) rfl (by rfl) ?_
  simp only [Act.put, nB, nC, nD, nE, nF, nG]
  refine x0B (v := .int .i64 ((lens W.e : Int) - (needsB W.d : Int))) (w' := w1) (by go_simp) ⟨trivial, ?_⟩
  simp only [Act.put, nB, nC, nD, nE, nF, nG]
  refine x01 (j := 9) (by kernel_rfl) rfl (by rfl) ?_
  simp only [Act.put, nB, nC, nD, nE, nF, nG]
  refine x0B (v := .int .i64 ((lens W.e : Int) - (needsB W.d : Int))) (w' := w1) (by kernel_rfl) ⟨trivial, ?_⟩
  simp only [Act.put, nB, nC, nD, nE, nF, nG]
  refine x0V (by kernel_rfl) ?_
  refine NoPanic.normal ?_
  have HB1 := kH hb1'
  have h1 := HH.out.1.below hb1'
  have HW1 := kH h1
  clear hb1 hb1' h1 c5 q9
  by_cases hov : needsB W.d < lens W.e
  -- {A
  · have hd1 : decide ((0 : Int) < (lens W.e : Int) - (needsB W.d : Int)) = true := decide_eq_true (by omega)
    obtain ⟨n, hn⟩ : ∃ n : Nat, n = lens W.e - needsB W.d := ⟨_, rfl⟩
    have hni : (lens W.e : Int) - (needsB W.d : Int) = (n : Int) := by omega
    rw [hni] at hd1 ⊢
    obtain ⟨hok, hfit, hgl2⟩ := HP.out.2 hov
    rw [<- hn] at hok hfit hgl2
    have hne : W.e ≠ [] := fun e => by rw [e] at hov; simp [lens] at hov
    obtain ⟨b, rfl⟩ : ∃ b, E = some ⟨b, 0, none⟩ := by
      rcases HW1.out.ext.2 with ⟨e, h0⟩ | ⟨b, cap, cur, e, _⟩
      · rw [x0R] at h0
        exact absurd (List.eq_nil_of_length_eq_zero h0) hne
      · injection e with e
        exact ⟨b, e⟩
    have HS := kH (xLE (n := n) (es := W.e) HW1.out.blk (by decide) (by rfl) HW1.out.ext (fun e he => (HP.out.1 e he).1) (by omega) (fun e he => by have := HP.out.1 e he; omega) (by omega) (by omega))
    have HNN := kH hn
    have hnb : n <= 65536 := by omega
    have hd2 : decide (0 < n) = true := decide_eq_true (by omega)
    have hd3 : 0 < n := by omega
    clear hn hni
    go_wp2_with fail
    refine HS.out.mono ?_
    rintro e w3 ⟨lv, rfl, hk3, ho3, hg3, hon3⟩
    obtain ⟨E3, c3, hlv, hE3⟩ := hg3.form
    rw [x0R] at hlv
    subst hlv
    have hst1 : StAt w1 gs ms gp r c1 A1 bl fl kvs := HH.out.2.2.2.below HB1.out
    have hlt : gs < w0.heap.size /\ ms < w0.heap.size := ⟨HH.out.2.2.1.blk.lt, HH.out.2.2.1.map.lt⟩
    have hgwB := HH.out.1.gB
    have hbB : w0.heap.size <= b := x0I HW1.out.ext b (by simp [rowOf, Value.ownBlock])
    have hz1 := HB1.out.size
    have hfo : ∀ k ∈ foot gp r fl, k < w0.heap.size := fun k hk => HH.out.2.2.1.sp.foot_lt hk
    have hsp3 : SAt w3 gp r A1 c1 fl (cnt fl) := by
      have hx := hst1.sp
      refine ⟨hx.blk.of (hon3.block _ hx.blk.lt (by simp; omega)), hx.cap, hx.lim, ?_⟩
      by_cases hf : fl = []
      · exact .inl hf
      rcases hx.row with e | ⟨e, cs, hb, hc⟩
      · exact .inl e
      · have := hfo r (by unfold foot; rw [if_neg hf]; simp)
        exact .inr ⟨e, cs, hb.of (hon3.block _ hb.lt (by simp; omega)), hc⟩
    have hext3 : ExtR w3 w3.heap.size E3 (natE (shedR W.e.reverse n).2) := OwnE.ext (by rw [x0R]; exact hg3)
    have hcap3 : (shedR W.e.reverse n).2.length <= c3 := by
      rcases hg3.2 with ⟨e, h0⟩ | ⟨_, _, _, e, _, _, hx, _⟩
      · rw [x0R] at h0; omega
      · injection e with _ _ e; rw [x0R] at hx; omega
    have HG := kH (xJ8 (shedR W.e.reverse n).2 hfit hok hsp3 HH.out.2.2.1.ne E3 c3 hcap3 hext3 (Nat.le_refl _) (fun ad hA hm => by have := (hE3 ad hA).1; have := hfo _ hm; omega) hgl2)
    go_wp2_with fail
    refine HG.out.mono ?_
    rintro e w4 ⟨rfl, hon4, hsp4⟩
    have hsl3 := hon3.size
    have hG13 : ∀ k ∈ foot gp r fl ++ [gw, b], k ∈ foot gp r fl ∨ k = gw ∨ k = b := fun k hk => by
      rcases List.mem_append.1 hk with h | h
      · exact .inl h
      · simp at h; exact .inr h
    have hon34 : Only (foot gp r fl ++ [gw, b]) w1 w4 := (hon3.mono (fun k hk => List.mem_append.2 (.inr hk))).trans (hon4.mono (fun k hk => List.mem_append.2 (.inl hk))) (Fresh.refl _ _)
    have hex : ∃ cs, Blk w1 b 198 cs := x0G HW1.out.ext rfl
    have hfin : FitTo w0 w gw gs ms gp r c1 A1 bl fl kvs W (.returned .nilIface) w4 := by
      refine ⟨?_, ?_, (shedR W.e.reverse n).1.reverse, setA fl (shedR W.e.reverse n).2 true, 0, ?_, rfl, ?_, ?_⟩
      · refine (Only.of_below (HH.out.2.1.trans (HB1.out.mono hs0)) _).trans hon34 (fun k hk => ?_)
        rcases hG13 k hk with h | h | h
        · exact .inl h
        · subst h; exact .inr hgwB
        · subst h; exact .inr hbB
      · have := hon34.size; omega
      · rw [HNN.out]
        exact .give hov
      · refine StAt.turned hst1 hon34 (fun hm => ?_) (fun hm => ?_) hsp4
        · rcases hG13 _ hm with h | h | h
          · exact hst1.sp.foot_odd (by decide) (by decide) h _ hst1.blk
          · omega
          · omega
        · rcases hG13 _ hm with h | h | h
          · obtain ⟨t, cs, hb, _⟩ := hst1.sp.foot_typed h
            exact hst1.map.ne_blk hb rfl
          · omega
          · omega
      · refine HW1.out.exts (G := foot gp r fl ++ [gw, b]) (m := (shedR W.e.reverse n).1.length) (ce' := ce) (E' := some ⟨b, 0, none⟩) (by simp) (hk3.of (hon4.block _ hk3.lt (fun hm => by have := hfo _ hm; omega))) ?_ hon34 (fun k hk hl => ?_)
        · exact x05 ho3 fun k hk => hon4.block k (x02 ho3 k hk) (fun hm => by have := hfo _ hm; have := x0I ho3 k hk; omega)
        · rcases hG13 k hk with h | h | h
          · refine ⟨hst1.sp.foot_odd (by decide) (by decide) h, hst1.sp.foot_odd (by decide) (by decide) h, fun mb hav e => ?_⟩
            rcases HW1.out.map with ⟨e', _⟩ | ⟨mb', e', hmB, _⟩
            · rw [e'] at hav; cases hav
            · rw [e'] at hav; injection hav with hav; injection hav with hav
              have := hfo _ h; omega
          · subst h
            refine ⟨Odd.blk HW1.out.blk (by decide), Odd.blk HW1.out.blk (by decide), fun mb hav e => ?_⟩
            rcases HW1.out.map with ⟨e', _⟩ | ⟨mb', e', hmB, hmm⟩
            · rw [e'] at hav; cases hav
            · rw [e'] at hav; injection hav with hav; injection hav with hav
              subst hav
              exact hmm.ne_blk HW1.out.blk e.symm
          · subst h
            obtain ⟨cs, hb⟩ := hex
            refine ⟨Odd.blk hb (by decide), Odd.blk hb (by decide), fun mb hav e => ?_⟩
            rcases HW1.out.map with ⟨e', _⟩ | ⟨mb', e', hmB, hmm⟩
            · rw [e'] at hav; cases hav
            · rw [e'] at hav; injection hav with hav; injection hav with hav
              subst hav
              exact hmm.ne_blk hb e.symm
    have HFIN := kH hfin
    clear hfin hon34 hsp4 hon4 hext3 hsp3 hst1 hon3 ho3 hg3 hk3 HG HS
    go_wp2
    go_ret
    exact HFIN.out
  -- A}
  -- {Bq
  · have hd1 : decide ((0 : Int) < (lens W.e : Int) - (needsB W.d : Int)) = false := decide_eq_false (by omega)
    obtain ⟨n, hn⟩ : ∃ n : Nat, n = needsB W.d - lens W.e := ⟨_, rfl⟩
    have hni : (needsB W.d : Int) - (lens W.e : Int) = (n : Int) := by omega
    have hnb : n <= 65536 := by omega
    have hwr2 : IntKind.i64.wrap ((needsB W.d : Int) - (lens W.e : Int)) = (n : Int) := by rw [hni, IntKind.wrap_i64]; omega
    have HNN := kH hn
    clear hn hni
    go_upto_region 5 with (fail)
    refine x09 (fun _ => True) 99 (by kernel_rfl) ?_
    refine tS (i := 0) (v := .pointer (some ⟨gp, 0, none⟩)) rfl rfl (by kernel_rfl) (by rfl) (fun w hw => by kernel_rfl) trivial ?_
    simp only [Act.put, nB, nC, nD, nE, nF, nG]
    refine tS (i := 1) (v := .pointer (some ⟨gw, 0, none⟩)) rfl rfl (by kernel_rfl) (by rfl) (fun w hw => by kernel_rfl) trivial ?_
    simp only [Act.put, nB, nC, nD, nE, nF, nG]
    refine tS (i := 2) (v := .pointer (some ⟨gw, 0, none⟩)) rfl rfl (by kernel_rfl) (by rfl) (fun w hw => by kernel_rfl) trivial ?_
    simp only [Act.put, nB, nC, nD, nE, nF, nG]
    refine tS (i := 3) (v := .pointer (some ⟨gw, 0, none⟩)) rfl rfl (by kernel_rfl) (by rfl) (fun w hw => by go_simp) trivial ?_
    simp only [Act.put, nB, nC, nD, nE, nF, nG]
    refine tS (i := 5) (v := .pointer (some ⟨gw, 0, none⟩)) rfl rfl (by kernel_rfl) (by rfl) (fun w hw => by kernel_rfl) trivial ?_
    simp only [Act.put, nB, nC, nD, nE, nF, nG]
    refine tS (i := 6) (v := .pointer (some ⟨gw, 0, none⟩)) rfl rfl (by kernel_rfl) (by rfl) (fun w hw => by kernel_rfl) trivial ?_
    simp only [Act.put, nB, nC, nD, nE, nF, nG]
    refine tS (i := 7) (v := .pointer (some ⟨gw, 0, none⟩)) rfl rfl (by kernel_rfl) (by rfl) (fun w hw => by go_simp) trivial ?_
    simp only [Act.put, nB, nC, nD, nE, nF, nG]
    refine x01 (j := 4) (by kernel_rfl) rfl (by rfl) ?_
    simp only [Act.put, nB, nC, nD, nE, nF, nG]
    refine x03 (by kernel_rfl) (HNEED.out w1.drew (x08 HB1.out 1)) ?_
    rintro e w2 ⟨rfl, rfl⟩
    refine ⟨_, rfl, trivial, ?_⟩
    simp only [Act.put, nB, nC, nD, nE, nF, nG]
    refine x01 (j := 8) (by kernel_rfl) rfl (by rfl) ?_
    simp only [Act.put, nB, nC, nD, nE, nF, nG]
    refine x03 (by kernel_rfl) (HHAS.out w1.drew (x08 HB1.out 1)) ?_
    rintro e w2 ⟨rfl, hb2⟩
    have hb2' : Below w.heap.size w w2 := HB1.out.trans ((x0K hb2).mono HB1.out.size)
    refine ⟨_, rfl, trivial, ?_⟩
    simp only [Act.put, nB, nC, nD, nE, nF, nG]
    refine x01 (j := 9) (by kernel_rfl) rfl (by rfl) ?_
    simp only [Act.put, nB, nC, nD, nE, nF, nG]
    refine x0B (v := .int .i64 (n : Int)) (w' := w2) (by go_simp) ⟨trivial, ?_⟩
    simp only [Act.put, nB, nC, nD, nE, nF, nG]
    refine x01 (j := 10) (by kernel_rfl) rfl (by rfl) ?_
    simp only [Act.put, nB, nC, nD, nE, nF, nG]
    have hst2 : StAt w2 gs ms gp r c1 A1 bl fl kvs := HH.out.2.2.2.below hb2'
    have hw2 := HH.out.1.below hb2'
    refine x03 (by kernel_rfl) (xIG n hst2.sp hst2.ne) ?_
    rintro e w3 ⟨hon3, hcase⟩
    have hlt : gs < w0.heap.size /\ ms < w0.heap.size := ⟨HH.out.2.2.1.blk.lt, HH.out.2.2.1.map.lt⟩
    have hgwB := HH.out.1.gB
    have hz2 := hb2'.size
    have hfo : ∀ k ∈ foot gp r fl, k < w0.heap.size := fun k hk => HH.out.2.2.1.sp.foot_lt hk
    have hb02 : Below w0.heap.size w0 w2 := HH.out.2.1.trans (hb2'.mono hs0)
    have hon03 : Only (foot gp r fl) w0 w3 := (Only.of_below hb02 _).trans hon3 (Fresh.refl _ _)
    have hgsf : gs ∉ foot gp r fl := fun hm => hst2.sp.foot_odd (by decide) (by decide) hm _ hst2.blk
    have hmsf : ms ∉ foot gp r fl := fun hm => by
      obtain ⟨t, cs, hb, _⟩ := hst2.sp.foot_typed hm
      exact hst2.map.ne_blk hb rfl
    have hodd : ∀ k ∈ foot gp r fl, k < w2.heap.size -> Odd w2 5 k /\ Odd w2 35 k /\ (∀ mb, av = .map (some mb) -> k ≠ mb) := fun k hk hl => ⟨hst2.sp.foot_odd (by decide) (by decide) hk, hst2.sp.foot_odd (by decide) (by decide) hk, fun mb hav e => by
      rcases hw2.map with ⟨e', _⟩ | ⟨mb', e', hmB, _⟩
      · rw [e'] at hav; cases hav
      · rw [e'] at hav; injection hav with hav; injection hav with hav
        have := hfo _ hk; omega⟩
    have K3 : Blk w3 gw 139 (workC D W.d.length c av E W.e.length ce W.th T W.told.length ct gs) := hw2.blk.of (hon3.block _ hw2.blk.lt (fun hm => by have := hfo _ hm; omega))
    have hE3 : OwnE w3 w0.heap.size (.slice E W.e.length ce) (natE W.e) := x05 hw2.ext fun k hk => hon3.block k (x02 hw2.ext k hk) (fun hm => by have := hfo _ hm; have := x0I hw2.ext k hk; omega)
    rcases hcase with ⟨hbig, rfl, hsp3⟩ | ⟨v, out, hk, rfl, hv, hch, hsp3⟩
    · have hfin : FitTo w0 w gw gs ms gp r c1 A1 bl fl kvs W (.returned (errV 4)) w3 := by
        refine ⟨hon03, by have := hon3.size; omega, W.e, fl, 4, ?_, rfl, StAt.turned hst2 hon3 hgsf hmsf hsp3, ?_⟩
        · exact .full (by omega) (by rw [<- HNN.out]; exact hbig)
        · exact hw2.exts (G := foot gp r fl) (m := W.e.length) (ce' := ce) (E' := E) rfl (by rw [x5O (by rfl)]; exact K3) hE3 hon3 hodd
      have HFIN := kH hfin
      clear hfin hE3 K3 hodd hsp3 hon03 hon3 hst2 hw2 hb02 hb2 hb2'
      refine ⟨_, rfl, trivial, ?_⟩
      simp only [Act.put, nB, nC, nD, nE, nF, nG]
      refine x01 (j := 11) (by kernel_rfl) rfl (by rfl) ?_
      simp only [Act.put, nB, nC, nD, nE, nF, nG]
      refine x0B (v := .tuple #[.slice none 0 0, errV 4]) (w' := w3) (by kernel_rfl) ⟨trivial, ?_⟩
      simp only [Act.put, nB, nC, nD, nE, nF, nG]
      refine tS (i := 12) (v := .slice none 0 0) rfl rfl (by kernel_rfl) (by rfl) (fun w hw => by kernel_rfl) trivial ?_
      simp only [Act.put, nB, nC, nD, nE, nF, nG]
      refine tS (i := 13) (v := errV 4) rfl rfl (by kernel_rfl) (by rfl) (fun w hw => by kernel_rfl) trivial ?_
      simp only [Act.put, nB, nC, nD, nE, nF, nG]
      refine x01 (j := 14) (by kernel_rfl) rfl (by rfl) ?_
      simp only [Act.put, nB, nC, nD, nE, nF, nG]
      refine x0B (v := .slice none 0 0) (w' := w3) (by kernel_rfl) ⟨trivial, ?_⟩
      simp only [Act.put, nB, nC, nD, nE, nF, nG]
      refine x01 (j := 15) (by kernel_rfl) rfl (by rfl) ?_
      simp only [Act.put, nB, nC, nD, nE, nF, nG]
      refine x0B (v := errV 4) (w' := w3) (by kernel_rfl) ⟨trivial, ?_⟩
      simp only [Act.put, nB, nC, nD, nE, nF, nG]
      refine x0V (by kernel_rfl) ?_
      refine NoPanic.normal ?_
      simp only [errV] at HFIN ⊢
      go_wp2
      go_ret
      exact HFIN.out
    · obtain ⟨A4, c4, hvf, hA4⟩ := hv.form
      rw [x0R] at hvf
      subst hvf
      have hol : out.length <= 65536 := by
        have h1 := hch.few.1
        have h2 := xFT fl
        have h3 := x6J fl
        have h4 := hst2.sp.lim
        omega
      have hext3 : ExtR w3 w3.heap.size A4 (natE out) := OwnE.ext (by rw [x0R]; exact hv)
      have c32 : w3.cell? ⟨gw, 2, none⟩ = some (.slice E W.e.length ce) := K3.cell 2
      have HK3 := kH (kA K3 (kA hE3 hext3))
      have HALL := kH (kA hon03 (kA hon3 (kA hst2 (kA hw2 (kA hodd (kA hsp3 hch))))))
      clear hE3 K3 hodd hsp3 hon03 hon3 hst2 hw2 hb02 hb2 hb2' hext3 hch hv
      refine ⟨_, rfl, trivial, ?_⟩
      simp only [Act.put, nB, nC, nD, nE, nF, nG]
      refine x01 (j := 11) (by kernel_rfl) rfl (by rfl) ?_
      simp only [Act.put, nB, nC, nD, nE, nF, nG]
      refine x0B (v := .tuple #[.slice A4 out.length c4, .nilIface]) (w' := w3) (by kernel_rfl) ⟨trivial, ?_⟩
      simp only [Act.put, nB, nC, nD, nE, nF, nG]
      refine tS (i := 12) (v := .slice A4 out.length c4) rfl rfl (by kernel_rfl) (by rfl) (fun w hw => by kernel_rfl) trivial ?_
      simp only [Act.put, nB, nC, nD, nE, nF, nG]
      refine tS (i := 13) (v := .nilIface) rfl rfl (by kernel_rfl) (by rfl) (fun w hw => by kernel_rfl) trivial ?_
      simp only [Act.put, nB, nC, nD, nE, nF, nG]
      refine x01 (j := 14) (by kernel_rfl) rfl (by rfl) ?_
      simp only [Act.put, nB, nC, nD, nE, nF, nG]
      refine x0B (v := .slice A4 out.length c4) (w' := w3) (by kernel_rfl) ⟨trivial, ?_⟩
      simp only [Act.put, nB, nC, nD, nE, nF, nG]
      refine x01 (j := 15) (by kernel_rfl) rfl (by rfl) ?_
      simp only [Act.put, nB, nC, nD, nE, nF, nG]
      refine x0B (v := .nilIface) (w' := w3) (by kernel_rfl) ⟨trivial, ?_⟩
      simp only [Act.put, nB, nC, nD, nE, nF, nG]
      refine x0V (by kernel_rfl) ?_
      refine NoPanic.normal ?_
      go_wp2_with (first
        | (have _h := c32; refine x7P (.tmp 54) (.tmp 55) rfl rfl w0.heap.size (.slice E W.e.length ce) (natE W.e) rfl HK3.out.2.1 w3.heap.size A4 out.length c4 (natE out) rfl (x0R out).symm HK3.out.2.2 (by rw [x0R]; omega) (by have := HALL.out.2.2.2.1.ext; have := HALL.out.2.1.size; have := HALL.out.1.size; omega) ?_
           clear _h c32
           intro v5 w5 hown5 hg5 hor5
           have hTg : some gw ≠ (Value.slice E W.e.length ce).ownBlock := fun e => by
             obtain ⟨cs, hb⟩ := x0G HK3.out.2.1 e.symm
             exact HK3.out.1.ne_ hb (by decide) rfl
           have K5 := HK3.out.1.grown hg5 hTg
           obtain ⟨E5, c5, hv5, -⟩ := hown5.form
           obtain ⟨m5, hm5⟩ : ∃ m5, m5 = (natE W.e ++ natE out).length := ⟨_, rfl⟩
           rw [<- hm5] at hv5
           have HM5 := kH hm5
           subst hv5
           clear hm5)
        | (have _h := K5; refine x4O rfl 135 _ _ rfl gw 2 139 _ (.slice E5 m5 c5) rfl rfl K5 (by simp [workC]) (by kernel_rfl) rfl ?_; intro w6 K6 o6 s6; have HK5 := kH K5; clear _h K5))
      go_ret
      obtain ⟨hon03, hon3, hst2, hw2, hodd, hsp3, hch⟩ := HALL.out
      have hgE : ∀ k ∈ rowOf (.slice E W.e.length ce), w0.heap.size <= k := fun k hk => x0I hw2.ext k hk
      have hon5 : Only (rowOf (.slice E W.e.length ce)) w3 w5 := (Only.refl _ _).grown hg5 (fun g hg => .inl (x00.2 hg))
      have hon26 : Only (foot gp r fl ++ (gw :: rowOf (.slice E W.e.length ce))) w2 w6 := ((hon3.mono (fun k hk => List.mem_append.2 (.inl hk))).trans (hon5.mono (fun k hk => List.mem_append.2 (.inr (List.mem_cons_of_mem _ hk)))) (Fresh.refl _ _)).trans (o6.mono (fun k hk => by simp at hk; subst hk; simp)) (Fresh.refl _ _)
      have hsplit : ∀ k ∈ foot gp r fl ++ (gw :: rowOf (.slice E W.e.length ce)), k ∈ foot gp r fl ∨ k = gw ∨ k ∈ rowOf (.slice E W.e.length ce) := fun k hk => by
        rcases List.mem_append.1 hk with h | h
        · exact .inl h
        · rcases List.mem_cons.1 h with h | h
          · exact .inr (.inl h)
          · exact .inr (.inr h)
      have hz36 : w3.heap.size <= w6.heap.size := by have := hon5.size; have := o6.size; omega
      have hfar6 : ∀ k, k < w0.heap.size -> w6.heap[k]? = w3.heap[k]? := fun k hk => by
        have h0 := hon03.size
        have h5 := hon5.size
        rw [o6.block k (by omega) (by simp; omega), hon5.block k (by omega) (fun hm => by have := hgE k hm; omega)]
      have hst6 : StAt w6 gs ms gp r c1 A1 bl (setA fl out false) kvs := by
        refine StAt.turned hst2 hon26 (fun hm => ?_) (fun hm => ?_) ?_
        · rcases hsplit _ hm with h | h | h
          · exact hgsf h
          · omega
          · have := hgE _ h; omega
        · rcases hsplit _ hm with h | h | h
          · exact hmsf h
          · omega
          · have := hgE _ h; omega
        · refine ⟨hsp3.blk.of (hfar6 _ hgl), hsp3.cap, hsp3.lim, ?_⟩
          by_cases hf : fl = []
          · left
            have h0 := (hch.ok (x4K fl)).1.len
            exact List.eq_nil_of_length_eq_zero (by rw [h0, hf]; rfl)
          · rcases hsp3.row with e | ⟨e, cs, hb, hc⟩
            · exact .inl e
            · exact .inr ⟨e, cs, hb.of (hfar6 _ (hfo r (by unfold foot; rw [if_neg hf]; simp))), hc⟩
      refine ⟨?_, ?_, W.e ++ out, setA fl out false, 0, ?_, rfl, hst6, ?_⟩
      · refine hon03.trans (F' := gw :: rowOf (.slice E W.e.length ce)) ?_ (fun k hk => ?_)
        · exact (hon5.mono (fun k hk => List.mem_cons_of_mem _ hk)).trans (o6.mono (fun k hk => by simp at hk; subst hk; simp)) (Fresh.refl _ _)
        · rcases List.mem_cons.1 hk with h | h
          · subst h; exact .inr hgwB
          · exact .inr (hgE k h)
      · have := hon03.size
        have := hon3.size
        omega
      · exact .take (by omega) (by rw [<- HNN.out]; exact hk) (by rw [<- HNN.out]; exact hch)
      · have hext6 : OwnE w6 w0.heap.size (.slice E5 m5 c5) (natE (W.e ++ out)) := by
          rw [xKL]
          exact x0N hown5 o6 (fun k hk => by simp at hk; subst hk; exact Odd.blk HK5.out (by decide))
        have hex : ∀ k ∈ rowOf (.slice E W.e.length ce), ∃ cs, Blk w2 k 198 cs := fun k hk => x0G hw2.ext (x00.1 hk)
        refine hw2.exts (G := foot gp r fl ++ (gw :: rowOf (.slice E W.e.length ce))) (m := m5) (by rw [HM5.out]; simp [natE]) K6 hext6 hon26 (fun k hk hl => ?_)
        rcases hsplit k hk with h | h | h
        · exact hodd k h hl
        · subst h
          refine ⟨Odd.blk hw2.blk (by decide), Odd.blk hw2.blk (by decide), fun mb hav e => ?_⟩
          rcases hw2.map with ⟨e', _⟩ | ⟨mb', e', hmB, hmm⟩
          · rw [e'] at hav; cases hav
          · rw [e'] at hav; injection hav with hav; injection hav with hav
            subst hav
            exact hmm.ne_blk hw2.blk e.symm
        · obtain ⟨cs, hb⟩ := hex k h
          refine ⟨Odd.blk hb (by decide), Odd.blk hb (by decide), fun mb hav e => ?_⟩
          rcases hw2.map with ⟨e', _⟩ | ⟨mb', e', hmB, hmm⟩
          · rw [e'] at hav; cases hav
          · rw [e'] at hav; injection hav with hav; injection hav with hav
            subst hav
            exact hmm.ne_blk hb e.symm
  -- Bq}
end
section
open Go.RowKit Go.BigFrame
theorem xDY {w w' : World} {Z : List Nat} {gs ms gp r c : Nat} {A : Option Addr} {M : Mod} {kv : KV} (h : StoreAt w Z gs ms gp r c A M kv) (hZ : ms ∈ Z) (ho : Only (ms :: foot gp r M.fl) w w') : Rel2 (ObjR w' Z) kv M.ob :=
 h.obs.imp fun a b hr => ⟨hr.1, by
  obtain ⟨go, mb, c1, ce, D, E, kv1, e, hmb, hat⟩ := hr.2
  refine ⟨go, mb, c1, ce, D, E, kv1, e, hmb, hat.only ho (fun k hk hl => ?_) (fun hm => ?_)⟩
  ·rcases List.mem_cons.1 hk with rfl | hk
   ·exact ⟨Odd.map h.st.map, Odd.map h.st.map, Odd.map h.st.map⟩
   ·exact ⟨h.st.sp.foot_odd (by decide) (by decide) hk, h.st.sp.foot_odd (by decide) (by decide) hk, h.st.sp.foot_odd (by decide) (by decide) hk⟩
  ·rcases List.mem_cons.1 hm with rfl | hm
   ·exact hmb hZ
   ·obtain ⟨t, cs, hb, _⟩ := h.st.sp.foot_typed hm
    exact hat.map.ne_blk hb rfl⟩
def EndTo (w0 : World) (Z : List Nat) (gw gs ms gp r c : Nat) (A : Option Addr) (M : Mod) (kv : KV) (k : Key) (W : Wk) (e : Ending) (w' : World) : Prop :=
  Only (ms :: foot gp r M.fl) w0 w' /\ ∃ es fl' n, FitR M.fl W es fl' n /\ e = .returned (errV n) /\ ((n = 4 /\ StoreAt w' Z gs ms gp r c A M kv) ∨ (n = 0 /\ (∃ kv', StoreAt w' Z gs ms gp r c A (endM M k W es fl') kv') /\ ∃ T ct tv, w'.cell? ⟨gw, 4, none⟩ = some (.slice T W.told.length ct) /\ w'.ownsRow w0.heap.size 35 1 (.slice T W.told.length ct) W.told.length tv /\ Rel2 (RowR w' w0.heap.size []) tv W.told))
theorem FitR.err {fl fl' : List Bool} {W : Wk} {es : List (Nat × Nat)} {n : Nat} (h : FitR fl W es fl' n) : (n = 0) ∨ (n = 4 /\ es = W.e /\ fl' = fl) := by
 cases h with
 | give => exact .inl rfl
 | full => exact .inr ⟨rfl, rfl, rfl⟩
 | take => exact .inl rfl
set_option maxHeartbeats 8000000 in
theorem xOM {w0 w : World} {Z : List Nat} {gw gs ms gp r c1 : Nat} {A1 : Option Addr} {M : Mod} {kvs : KV} {c ce ct : Nat} {D E T : Option Addr} {av : Value} {kv : KV} {tv : List Value} {W : Wk} (h : WkAt w w0.heap.size gw gs c ce ct D E T av kv tv W) (hb0 : Below w0.heap.size w0 w)
    (hst0 : StoreAt w0 Z gs ms gp r c1 A1 M kvs) (hZ : ms ∈ Z) (hZl : ∀ z ∈ Z, z < w0.heap.size) (hkn : kvs.length <= 1000000) (nm : List Nat) (hnm : nm.length <= 1000000) (hd : W.d.length <= 65536) (hpos : ∀ e ∈ W.e, 1 <= e.2 /\ e.1 <= 65536 /\ e.2 <= 65536) (hle : lens W.e <= 65536) (hel : W.e.length <= 65536) (hgv : needsB W.d < lens W.e -> OkA M.fl (shedR W.e.reverse (lens W.e - needsB W.d)).2 true /\ (∀ e ∈ (shedR W.e.reverse (lens W.e - needsB W.d)).2, 1 <= e.2 /\ e.1 <= 65536 /\ e.2 <= 65536) /\ (shedR W.e.reverse (lens W.e - needsB W.d)).2.length <= 65536) :
    Calls Tryz.prog 66 #[.pointer (some ⟨gs, 0, none⟩), .string (strOf nm), .pointer (some ⟨gw, 0, none⟩)] w (EndTo w0 Z gw gs ms gp r c1 A1 M kvs (keyB nm) W) := by
  have HF := kH (xO2 h hb0 hst0.st hd hpos hle hel hgv)
  have H0 := kH (kA h (kA hb0 (kA hst0 hZ)))
  have HZL := kH hZl
  clear h hb0 hst0 hpos hgv
  go_enter Tryz.func66, Tryz.ntmps66
  go_wp2_with fail
  refine HF.out.mono ?_
  rintro e w3 ⟨hon3, hsz3, es, fl', n, hfit, rfl, hst3, hwk3⟩
  have hkeep : Only (ms :: foot gp r M.fl) w0 w3 := hon3.mono fun k hk => List.mem_cons_of_mem _ hk
  rcases hfit.err with rfl | ⟨rfl, rfl, rfl⟩
  -- {A
  · obtain ⟨c, ce, ct, D, E, T, av, kv, tv, h3⟩ := hwk3
    have q3 : w3.cell? ⟨gw, 3, none⟩ = some (.bool W.th) := h3.blk.cell 3
    have q0 : w3.cell? ⟨gs, 0, none⟩ = some (.map (some ms)) := hst3.c0
    have hgsl := hst3.blk.lt
    have hgwB := h3.gB
    have hmsl : ms < w0.heap.size := H0.out.2.2.1.st.map.lt
    have hz0 : w0.heap.size <= w3.heap.size := hon3.size
    have hold : Rel2 (ObjR w3 Z) kvs M.ob := xDY H0.out.2.2.1 H0.out.2.2.2 hkeep
    have hkb : (keyB nm).length <= maxLen := by simp [keyB, maxLen]; omega
    have hT4 : ∀ w', Only [ms] w3 w' -> w'.cell? ⟨gw, 4, none⟩ = some (.slice T W.told.length ct) /\ w'.ownsRow w0.heap.size 35 1 (.slice T W.told.length ct) W.told.length tv /\ Rel2 (RowR w' w0.heap.size []) tv W.told := fun w' ho => by
      have hod : ∀ (e : TypeId), ∀ k ∈ [ms], Odd w3 e k := fun e k hk => by simp at hk; subst hk; exact Odd.map hst3.map
      refine ⟨?_, x0N h3.tol ho (hod _), h3.els.imp fun a b hr => (hr.only ho fun k hk => .inr (hod _ k hk)).far (fun k hk => by cases hk)⟩
      exact (h3.blk.of (ho.block _ h3.blk.lt (by simp; have := hst3.map.ne_blk h3.blk; omega))).cell 4
    have hstT : ∀ w' kv', Only [ms] w3 w' -> SMap Tryz.prog 9 w' ms kv' -> StAt w' gs ms gp r c1 A1 M.bl fl' kv' := fun w' kv' ho hm => by
      refine ⟨hst3.blk.of (ho.block _ hst3.blk.lt (by simp; have := hst3.map.ne_blk hst3.blk; omega)), hst3.len, hm, hst3.sp.of (ho.block _ hst3.sp.blk.lt (by simp; have := hst3.map.ne_blk hst3.sp.blk; omega)) (fun t cs hb => ho.block _ hb.lt (by simp; have := hst3.map.ne_blk hb; omega)), hst3.ne⟩
    have hobT : ∀ w', Only [ms] w3 w' -> Rel2 (ObjR w' Z) kvs M.ob := fun w' ho => hold.imp fun a b hr => ⟨hr.1, by
      obtain ⟨go, mb, c1, ce, D, E, kv1, e, hmb, hat⟩ := hr.2
      refine ⟨go, mb, c1, ce, D, E, kv1, e, hmb, hat.only ho (fun k hk hl => ?_) (fun hm => ?_)⟩
      · simp at hk; subst hk; exact ⟨Odd.map hst3.map, Odd.map hst3.map, Odd.map hst3.map⟩
      · simp at hm; subst hm; exact hmb H0.out.2.2.2⟩
    cases hth : W.th
    · obtain ⟨w5, hrun, hm5, hg5, -⟩ := x4H (P := Tryz.prog) (ty := 0) Tryz.underlying9 Tryz.underlying118 hst3.map (keyB nm) hkb
      rw [x16] at hrun
      have ho5 : Only [ms] w3 w5 := (Only.refl _ _).grown hg5 (fun g hg => .inl (by injection hg with hg; simp [hg]))
      have hfin : EndTo w0 Z gw gs ms gp r c1 A1 M kvs (keyB nm) W (.returned .nilIface) w5 := by
        refine ⟨hkeep.trans ho5 (fun k hk => by simp at hk; subst hk; simp), es, fl', 0, hfit, rfl, .inr ⟨rfl, ⟨_, hstT w5 _ ho5 hm5, ?_⟩, T, ct, tv, hT4 w5 ho5⟩⟩
        have : (endM M (keyB nm) W es fl').ob = gdel (keyB nm) M.ob := by simp [endM, hth]
        rw [this]
        exact (hobT w5 ho5).del ObjR.key (keyB nm)
      have HFIN := kH hfin
      rw [hth] at q3
      clear hfin hobT hstT hT4 hold hst3 h3 ho5 hm5 hg5 hfit hkeep hon3 hth
      simp only [errV]
      go_wp2
      go_ret
      exact HFIN.out
    · obtain ⟨mb, rfl, hmB, hmm⟩ : ∃ mb, av = .map (some mb) /\ w0.heap.size <= mb /\ SMap Tryz.prog 9 w3 mb kv := by
        rcases h3.map with ⟨_, _, e⟩ | hh
        · rw [show ({W with e := es} : Wk).th = W.th from rfl, hth] at e; cases e
        · exact hh
      have hbA : Below w3.heap.size w3 (w3.alloc (.cells (objC D W.d.length c (.map (some mb)) E es.length ce) 137)) := (Below.refl _ _).alloc (Nat.le_refl _) _
      have KA := Blk.new w3 137 (objC D W.d.length c (.map (some mb)) E es.length ce)
      obtain ⟨wA, hwA⟩ : ∃ wA, wA = w3.alloc (.cells (objC D W.d.length c (.map (some mb)) E es.length ce) 137) := ⟨_, rfl⟩
      rw [<- hwA] at hbA KA
      have hmA : SMap Tryz.prog 9 wA ms kvs := hst3.map.of (hbA.block _ hst3.map.lt)
      obtain ⟨w5, hrun, hm5, hg5, -⟩ := x25 (P := Tryz.prog) Tryz.underlying9 Tryz.underlying118 hmA (keyB nm) hkb (by simp only [maxLen]; omega) (.pointer (some ⟨w3.heap.size, 0, none⟩))
      rw [x16, hwA] at hrun
      have hoA : Only [ms] wA w5 := (Only.refl _ _).grown hg5 (fun g hg => .inl (by injection hg with hg; simp [hg]))
      have ho5 : Only [ms] w3 w5 := (Only.of_below hbA _).trans hoA (Fresh.refl _ _)
      have hodA : ∀ (e : TypeId), ∀ k ∈ [ms], Odd wA e k := fun e k hk => by simp at hk; subst hk; exact Odd.map hmA
      have hob : ObR w5 Z (.pointer (some ⟨w3.heap.size, 0, none⟩)) ⟨W.d, W.a, es⟩ := by
        have h3A := h3.below hbA
        refine ⟨w3.heap.size, mb, c, ce, D, E, kv, rfl, fun hm => by have := HZL.out mb hm; omega, ⟨KA.of (hoA.block _ KA.lt (by simp; omega)), x0A (x0N h3A.dat hoA (hodA _)) (Nat.zero_le _), h3.ok, ?_, h3A.att.imp fun a b hr => ⟨hr.1, (hr.2.only hoA fun k hk => .inr (hodA _ k hk)).far (fun k hk => by cases hk)⟩, x0A (x0N h3A.ext hoA (hodA _)) (Nat.zero_le _)⟩⟩
        have hmmA := hmm.of (hbA.block _ hmm.lt)
        exact hmmA.of (hoA.block _ hmmA.lt (by simp; omega))
      have hfin : EndTo w0 Z gw gs ms gp r c1 A1 M kvs (keyB nm) W (.returned .nilIface) w5 := by
        refine ⟨hkeep.trans ho5 (fun k hk => by simp at hk; subst hk; simp), es, fl', 0, hfit, rfl, .inr ⟨rfl, ⟨_, hstT w5 _ ho5 hm5, ?_⟩, T, ct, tv, hT4 w5 ho5⟩⟩
        have : (endM M (keyB nm) W es fl').ob = gput (keyB nm) ⟨W.d, W.a, es⟩ M.ob := by simp [endM, hth]
        rw [this]
        exact (hobT w5 ho5).put ObjR.key ⟨rfl, hob⟩
      have HFIN := kH hfin
      have hrg : w3.rangeAt gw 0 [.slice D W.d.length c, .map (some mb), .slice E es.length ce] := fun j v hj => by
        match j, hj with
        | 0, hj => simp at hj; subst hj; exact h3.blk.cell 0
        | 1, hj => simp at hj; subst hj; exact h3.blk.cell 1
        | 2, hj => simp at hj; subst hj; exact h3.blk.cell 2
      rw [hth] at q3
      simp only [objC] at hrun
      clear hfin hobT hstT hT4 hold hst3 h3 ho5 hm5 hg5 hfit hkeep hon3 hth hob hodA hoA hmA hbA KA hmm hwA
      simp only [errV]
      go_wp2_with (have _h := hrg; refine wpList_load_mid rfl 137 (.tmp 20) rfl gw 0 rfl _ _ hrg Tryz.underlying137 (by rfl) (by kernel_rfl) ?_; clear _h hrg)
      go_ret
      exact HFIN.out
  -- A}
  · have hfin : EndTo w0 Z gw gs ms gp r c1 A1 M kvs (keyB nm) W (.returned (errV 4)) w3 := ⟨hkeep, W.e, M.fl, 4, hfit, rfl, .inl ⟨rfl, hst3, xDY H0.out.2.2.1 H0.out.2.2.2 hkeep⟩⟩
    have HFIN := kH hfin
    clear hfin hkeep hfit hst3 hwk3 hon3
    simp only [errV] at HFIN ⊢
    go_wp2
    go_ret
    exact HFIN.out
end
section
open Go.RowKit Go.BigFrame
def Dis (p q : Nat × Nat) : Prop := p.1 + p.2 <= q.1 ∨ q.1 + q.2 <= p.1
theorem Dis.symm {p q : Nat × Nat} (h : Dis p q) : Dis q p := Or.symm h
def Sub (p q : Nat × Nat) : Prop := q.1 <= p.1 /\ p.1 + p.2 <= q.1 + q.2
theorem Sub.refl (p : Nat × Nat) : Sub p p := ⟨Nat.le_refl _, Nat.le_refl _⟩
theorem Sub.dis {p q e : Nat × Nat} (h : Sub p e) (hd : Dis e q) : Dis p q := by
 unfold Dis Sub at *
 omega
theorem x7O {l m : List (Nat × Nat)} (h : l.Perm m) : l.Pairwise Dis ↔ m.Pairwise Dis := h.pairwise_iff (fun {a b} hd => Dis.symm hd)
theorem x4Y : ∀ (L : List (Nat × Nat)) (l : List Bool) (b : Bool), (∀ e ∈ L, 1 <= e.2) -> (OkA l L b ↔ (∀ e ∈ L, AllR l e.1 e.2 (!b)) /\ L.Pairwise Dis)
 | [], l, b, _ => by simp [OkA]
 | e :: L, l, b, hp => by
  have ih := x4Y L (setR l e.1 e.2 b) b (fun q hq => hp q (by simp [hq]))
  have hpe := hp e (by simp)
  constructor
  ·rintro ⟨h1, h2⟩
   obtain ⟨h3, h4⟩ := ih.1 h2
   have hd : ∀ q ∈ L, Dis e q /\ AllR l q.1 q.2 (!b) := fun q hq => by
    have hq3 := h3 q hq
    have hpq := hp q (by simp [hq])
    have hlen := hq3.1
    rw [x0T h1.1] at hlen
    have hdis : Dis e q := by
     apply Classical.byContradiction
     intro hn
     unfold Dis at hn
     have hj := hq3.2 (max e.1 q.1) (by omega) (by omega)
     rw [x13 h1.1, if_pos (by omega)] at hj
     cases b <;> simp at hj
    refine ⟨hdis, hlen, fun j hj1 hj2 => ?_⟩
    have := hq3.2 j hj1 hj2
    rw [x13 h1.1, if_neg (by unfold Dis at hdis; omega)] at this
    exact this
   refine ⟨fun q hq => ?_, List.pairwise_cons.2 ⟨fun q hq => (hd q hq).1, h4⟩⟩
   rcases List.mem_cons.1 hq with rfl | hq
   ·exact h1
   ·exact (hd q hq).2
  ·rintro ⟨h1, h2⟩
   obtain ⟨h3, h4⟩ := List.pairwise_cons.1 h2
   have he := h1 e (by simp)
   refine ⟨he, ih.2 ⟨fun q hq => ?_, h4⟩⟩
   have hq1 := h1 q (by simp [hq])
   have hdis := h3 q hq
   refine ⟨by rw [x0T he.1]; exact hq1.1, fun j hj1 hj2 => ?_⟩
   rw [x13 he.1, if_neg (by unfold Dis at hdis; omega)]
   exact hq1.2 j hj1 hj2
theorem Cov.app {a b : List (Nat × Nat)} {j : Nat} : Cov (a ++ b) j ↔ Cov a j ∨ Cov b j := by
 unfold Cov
 constructor
 ·rintro ⟨e, he, h⟩
  rcases List.mem_append.1 he with he | he
  ·exact .inl ⟨e, he, h⟩
  ·exact .inr ⟨e, he, h⟩
 ·rintro (⟨e, he, h⟩ | ⟨e, he, h⟩)
  ·exact ⟨e, List.mem_append.2 (.inl he), h⟩
  ·exact ⟨e, List.mem_append.2 (.inr he), h⟩
theorem Cov.perm {a b : List (Nat × Nat)} (h : a.Perm b) {j : Nat} : Cov a j ↔ Cov b j := by
 unfold Cov
 exact ⟨fun ⟨e, he, hh⟩ => ⟨e, h.mem_iff.1 he, hh⟩, fun ⟨e, he, hh⟩ => ⟨e, h.mem_iff.2 he, hh⟩⟩
theorem Cov.nil {j : Nat} : ¬ Cov [] j := fun ⟨e, he, _⟩ => by cases he
theorem x8X (a b : List (Nat × Nat)) : lens (a ++ b) = lens a + lens b := by simp [lens]
theorem x5Z {a b : List (Nat × Nat)} (h : a.Perm b) : lens a = lens b := by
 unfold lens
 exact (h.map _).sum_nat
theorem xIL {l : List (Nat × Nat)} (hp : ∀ e ∈ l, 1 <= e.2) (h : lens l = 0) : l = [] := by
 cases l with
 | nil => rfl
 | cons e l =>
  have := hp e (by simp)
  simp [lens] at h
  omega
theorem x9T : ∀ (r : List (Nat × Nat)) (n : Nat), (∀ e ∈ r, 1 <= e.2) -> n <= lens r →
  (∀ j, Cov r j ↔ Cov (shedR r n).1 j ∨ Cov (shedR r n).2 j) /\ (∀ q ∈ (shedR r n).1 ++ (shedR r n).2, 1 <= q.2 /\ ∃ e ∈ r, Sub q e) /\ lens (shedR r n).1 + n = lens r /\ (r.Pairwise Dis -> ((shedR r n).1 ++ (shedR r n).2).Pairwise Dis) /\ (shedR r n).1.length <= r.length /\ (shedR r n).2.length <= r.length
 | r, 0, hp, _ => by
  rw [x61]
  refine ⟨fun j => ⟨fun h => .inl h, fun h => h.resolve_right Cov.nil⟩, fun q hq => ?_, rfl, fun h => by simpa using h, Nat.le_refl _, Nat.zero_le _⟩
  have hq' : q ∈ r := by simpa using hq
  exact ⟨hp q hq', q, hq', Sub.refl q⟩
 | [], n + 1, _, h => by simp [lens] at h
 | (x, y) :: r, n + 1, hp, h => by
  have hpr : ∀ e ∈ r, 1 <= e.2 := fun e he => hp e (by simp [he])
  have hy := hp (x, y) (by simp)
  by_cases hlt : n + 1 < y
  ·rw [x92 (by omega) hlt]
   refine ⟨fun j => ?_, fun q hq => ?_, ?_, fun hpw => ?_, by simp, by simp⟩
   ·rw [Cov.cons, Cov.cons]
    simp only [Cov, List.mem_singleton, exists_eq_left]
    constructor
    ·rintro (hh | hh)
     ·by_cases hj : j < x + (y - (n + 1))
      ·exact .inl (.inl ⟨hh.1, hj⟩)
      ·exact .inr ⟨by omega, by omega⟩
     ·exact .inl (.inr hh)
    ·rintro ((hh | hh) | hh)
     ·exact .inl ⟨hh.1, by have := hh.2; omega⟩
     ·exact .inr hh
     ·exact .inl ⟨by have := hh.1; omega, by have := hh.2; omega⟩
   ·simp at hq
    rcases hq with rfl | hq | rfl
    ·exact ⟨by simp; omega, (x, y), by simp, by simp only [Sub]; omega⟩
    ·exact ⟨hpr q hq, q, by simp [hq], Sub.refl q⟩
    ·exact ⟨by simp, (x, y), by simp, by simp only [Sub]; omega⟩
   ·simp [lens]; omega
   ·obtain ⟨h1, h2⟩ := List.pairwise_cons.1 hpw
    rw [List.cons_append, List.pairwise_cons]
    refine ⟨fun q hq => ?_, ?_⟩
    ·rcases List.mem_append.1 hq with hq | hq
     ·exact Sub.dis (e := (x, y)) (by simp only [Sub]; omega) (h1 q hq)
     ·simp at hq; subst hq; simp only [Dis]; omega
    ·rw [List.pairwise_append]
     refine ⟨h2, by simp, fun a ha b hb => ?_⟩
     simp at hb
     subst hb
     exact (Sub.dis (e := (x, y)) (by simp only [Sub]; omega) (h1 a ha)).symm
  ·rw [x4Q (by omega) (by omega)]
   obtain ⟨i1, i2, i3, i4, i5, i6⟩ := x9T r (n + 1 - y) hpr (by simp [lens] at h ⊢; omega)
   have hmv : ∀ (l g : List (Nat × Nat)), (l ++ (x, y) :: g).Perm ((x, y) :: (l ++ g)) := fun l g => List.perm_middle
   refine ⟨fun j => ?_, fun q hq => ?_, ?_, fun hpw => ?_, by simp; omega, by simp; omega⟩
   ·rw [Cov.cons, Cov.cons, i1 j]
    constructor
    ·rintro (hh | hh | hh)
     ·exact .inr (.inl hh)
     ·exact .inl hh
     ·exact .inr (.inr hh)
    ·rintro (hh | hh | hh)
     ·exact .inr (.inl hh)
     ·exact .inl hh
     ·exact .inr (.inr hh)
   ·rcases List.mem_cons.1 ((hmv _ _).mem_iff.1 hq) with rfl | hq
    ·exact ⟨hy, (x, y), by simp, Sub.refl _⟩
    ·obtain ⟨h1, e, he, hs⟩ := i2 q hq
     exact ⟨h1, e, by simp [he], hs⟩
   ·simp [lens] at i3 ⊢; omega
   ·obtain ⟨h1, h2⟩ := List.pairwise_cons.1 hpw
    rw [x7O (hmv _ _), List.pairwise_cons]
    refine ⟨fun q hq => ?_, i4 h2⟩
    obtain ⟨_, e, he, hs⟩ := i2 q hq
    exact (Sub.dis hs (h1 e he).symm).symm
structure Good (fl : List Bool) (L : List (Nat × Nat)) : Prop where
 pos : ∀ e ∈ L, 1 <= e.2
 dis : L.Pairwise Dis
 inn : ∀ e ∈ L, e.1 + e.2 <= fl.length
 cov : ∀ j, j < fl.length -> (Cov L j ↔ fl[j]? = some false)
theorem Good.perm {fl : List Bool} {L L' : List (Nat × Nat)} (h : Good fl L) (hp : L.Perm L') : Good fl L' :=
  ⟨fun e he => h.pos e (hp.mem_iff.2 he), (x7O hp).1 h.dis, fun e he => h.inn e (hp.mem_iff.2 he), fun j hj => (Cov.perm hp).symm.trans (h.cov j hj)⟩
theorem Good.shed {fl : List Bool} {e R : List (Nat × Nat)} (h : Good fl (e ++ R)) {n : Nat} (hn : n <= lens e) : OkA fl (shedR e.reverse n).2 true /\ Good (setA fl (shedR e.reverse n).2 true) ((shedR e.reverse n).1.reverse ++ R) /\ lens (shedR e.reverse n).1.reverse + n = lens e /\ (∀ q ∈ (shedR e.reverse n).2, 1 <= q.2 /\ q.1 + q.2 <= fl.length) /\ (shedR e.reverse n).2.length <= e.length := by
 have hre : e.reverse.Perm e := e.reverse_perm
 have hpe : ∀ q ∈ e.reverse, 1 <= q.2 := fun q hq => h.pos q (List.mem_append.2 (.inl (List.mem_reverse.1 hq)))
 obtain ⟨i1, i2, i3, i4, i5, i6⟩ := x9T e.reverse n hpe (by rw [x5Z hre]; exact hn)
 obtain ⟨d1, d2, d3⟩ := List.pairwise_append.1 h.dis
 have i4' := i4 ((x7O hre).2 d1)
 generalize (shedR e.reverse n).1 = l at *
 generalize (shedR e.reverse n).2 = g at *
 have hsub : ∀ q ∈ l ++ g, q.1 + q.2 <= fl.length := fun q hq => by
  obtain ⟨_, f, hf, hs⟩ := i2 q hq
  have := h.inn f (List.mem_append.2 (.inl (List.mem_reverse.1 hf)))
  unfold Sub at hs
  omega
 have hallg : ∀ q ∈ g, AllR fl q.1 q.2 false := fun q hq => ⟨hsub q (List.mem_append.2 (.inr hq)), fun j h1 h2 => (h.cov j (by have := hsub q (List.mem_append.2 (.inr hq)); omega)).1 (Cov.app.2 (.inl ((Cov.perm hre).1 ((i1 j).2 (.inr ⟨q, hq, h1, h2⟩)))))⟩
 obtain ⟨p1, p2, p3⟩ := List.pairwise_append.1 i4'
 have hok : OkA fl g true := (x4Y g fl true (fun q hq => (i2 q (List.mem_append.2 (.inr hq))).1)).2 ⟨hallg, p2⟩
 have hdg : ∀ a ∈ l ++ g, ∀ b ∈ R, Dis a b := fun a ha b hb => by
  obtain ⟨_, f, hf, hs⟩ := i2 a ha
  exact Sub.dis hs (d3 f (List.mem_reverse.1 hf) b hb)
 refine ⟨hok, ⟨fun q hq => ?_, ?_, fun q hq => ?_, fun j hj => ?_⟩, ?_, fun q hq => ⟨(i2 q (List.mem_append.2 (.inr hq))).1, hsub q (List.mem_append.2 (.inr hq))⟩, by simpa using i6⟩
 ·rcases List.mem_append.1 hq with hq | hq
  ·exact (i2 q (List.mem_append.2 (.inl (List.mem_reverse.1 hq)))).1
  ·exact h.pos q (List.mem_append.2 (.inr hq))
 ·rw [List.pairwise_append]
  exact ⟨(x7O l.reverse_perm).2 p1, d2, fun a ha b hb => hdg a (List.mem_append.2 (.inl (List.mem_reverse.1 ha))) b hb⟩
 ·rw [hok.len]
  rcases List.mem_append.1 hq with hq | hq
  ·exact hsub q (List.mem_append.2 (.inl (List.mem_reverse.1 hq)))
  ·exact h.inn q (List.mem_append.2 (.inr hq))
 ·rw [hok.len] at hj
  have hat := hok.at_ j
  have hc := h.cov j hj
  by_cases hg : Cov g j
  ·rw [(hat.1 hg).1]
   constructor
   ·intro hcv
    exfalso
    obtain ⟨q, hq, q1, q2⟩ := hg
    rcases Cov.app.1 hcv with ⟨a, ha, a1, a2⟩ | ⟨a, ha, a1, a2⟩
    ·have := p3 a (List.mem_reverse.1 ha) q hq; unfold Dis at this; omega
    ·have := hdg q (List.mem_append.2 (.inr hq)) a ha; unfold Dis at this; omega
   ·intro hf; simp at hf
  ·rw [hat.2 hg, <- hc, Cov.app, Cov.app, Cov.perm l.reverse_perm, <- Cov.perm hre, i1 j]
   constructor
   ·rintro (hh | hh)
    ·exact .inl (.inl hh)
    ·exact .inr hh
   ·rintro ((hh | hh) | hh)
    ·exact .inl hh
    ·exact absurd hh hg
    ·exact .inr hh
 ·rw [x5Z l.reverse_perm, i3, x5Z hre]
theorem Chosen.pos_ {L out : List (Nat × Nat)} {n : Nat} (h : Chosen L n out) (hL : ∀ e ∈ L, 1 <= e.2) : ∀ e ∈ out, 1 <= e.2 := by
 induction h with
 | none => simp
 | fit hn _ => simp; omega
 | long ht _ _ ih =>
  intro e he
  rcases List.mem_cons.1 he with rfl | he
  ·exact hL _ ht.1
  ·exact ih (fun e he => hL e (List.mem_of_mem_erase he)) e he
theorem Good.take {fl : List Bool} {e R out : List (Nat × Nat)} (h : Good fl (e ++ R)) {n : Nat} (hc : Chosen (hol 0 fl) n out) : Good (setA fl out false) ((e ++ out) ++ R) /\ lens out = n := by
 obtain ⟨hok, hl⟩ := hc.ok (x4K fl)
 have hpos : ∀ q ∈ out, 1 <= q.2 := hc.pos_ (fun q hq => (x7S fl 0 q.1 q.2 hq).2.1)
 obtain ⟨hall, hdis⟩ := (x4Y out fl false hpos).1 hok
 have hfar : ∀ a ∈ out, ∀ b ∈ e ++ R, Dis a b := fun a ha b hb => by
  apply Classical.byContradiction
  intro hn
  unfold Dis at hn
  have ha1 := hall a ha
  have hb1 := h.pos b hb
  have ha2 := hpos a ha
  have h1 := ha1.2 (max a.1 b.1) (by omega) (by omega)
  have hb2 := h.inn b hb
  have h2 := (h.cov (max a.1 b.1) (by omega)).1 ⟨b, hb, by omega, by omega⟩
  rw [h1] at h2
  simp at h2
 have hperm : ((e ++ out) ++ R).Perm (out ++ (e ++ R)) := by
  rw [<- List.append_assoc]
  exact (List.perm_append_comm).append_right R
 refine ⟨Good.perm (L := out ++ (e ++ R)) ⟨fun q hq => ?_, ?_, fun q hq => ?_, fun j hj => ?_⟩ hperm.symm, hl⟩
 ·rcases List.mem_append.1 hq with hq | hq
  ·exact hpos q hq
  ·exact h.pos q hq
 ·rw [List.pairwise_append]
  exact ⟨hdis, h.dis, hfar⟩
 ·rw [hok.len]
  rcases List.mem_append.1 hq with hq | hq
  ·exact (hall q hq).1
  ·exact h.inn q hq
 ·rw [hok.len] at hj
  have hat := hok.at_ j
  rw [Cov.app]
  by_cases ho : Cov out j
  ·rw [(hat.1 ho).1]
   exact ⟨fun _ => rfl, fun _ => .inl ho⟩
  ·rw [hat.2 ho, <- h.cov j hj]
   exact ⟨fun hh => hh.resolve_left ho, fun hh => .inr hh⟩
theorem x8R {fl : List Bool} {L : List (Nat × Nat)} (h : Good fl L) : cnt fl + lens L = fl.length := by
 have hok : OkA (List.replicate fl.length true) L false := (x4Y L _ false h.pos).2 ⟨fun e he => ⟨by simpa using h.inn e he, fun j h1 h2 => by have := h.inn e he; rw [List.getElem?_replicate, if_pos (by omega)]; rfl⟩, h.dis⟩
 have hset : setA (List.replicate fl.length true) L false = fl := by
  apply List.ext_getElem?
  intro j
  have hat := hok.at_ j
  by_cases hj : j < fl.length
  ·by_cases hc : Cov L j
   ·rw [(hat.1 hc).1, (h.cov j hj).1 hc]
   ·rw [hat.2 hc]
    have : fl[j]? ≠ some false := fun e => hc ((h.cov j hj).2 e)
    rw [List.getElem?_eq_getElem hj] at this ⊢
    simp [hj] at this ⊢
    exact this
  ·rw [List.getElem?_eq_none (by rw [hok.len]; simpa using hj), List.getElem?_eq_none (by omega)]
 have hcn := hok.cnt
 rw [hset] at hcn
 have hr : cnt (List.replicate fl.length true) = fl.length := by simp [cnt, List.countP_replicate]
 rw [hr] at hcn
 simp at hcn
 omega
end
section
open Go.RowKit Go.BigFrame
def exts (ob : List (Key × Ob)) : List (Nat × Nat) := ob.flatMap fun p => p.2.e
theorem xBJ {a b : List (Key × Ob)} (h : a.Perm b) : (exts a).Perm (exts b) := h.flatMap_right _
theorem xGA {M : Mod} (h : Keys1 M.ob) (k : Key) : (exts M.ob).Perm ((startW M k).e ++ exts (gdel k M.ob)) := by
 unfold startW
 cases hg : gget M.ob k with
 | none => rw [xAK hg]; exact List.Perm.refl _
 | some o => exact xBJ (xAL h hg)
theorem xN0 {ob : List (Key × Ob)} (k : Key) (o : Ob) : (exts (gput k o ob)).Perm (o.e ++ exts (gdel k ob)) := xBJ (x3H k o ob)
structure OkO (n : Nat) (o : Ob) : Prop where
 d : o.d.length <= 65536
 e : lens o.e = needsB o.d
 a : o.a.length <= n
 v : ∀ q ∈ o.a, q.2.length <= 65536
structure Inv (n : Nat) (M : Mod) : Prop where
 keys : Keys1 M.ob
 few : M.ob.length <= n
 len : M.fl.length <= 65536
 bl : M.bl.length = 8
 good : Good M.fl (exts M.ob)
 obs : ∀ p ∈ M.ob, OkO n p.2
 nms : ∀ p ∈ M.ob, ∃ nm, p.1 = keyB nm /\ isNameB nm = true
structure WB (n : Nat) (W : Wk) : Prop where
 d : W.d.length <= 65536
 a : W.a.length <= n
 t : W.told.length <= n
 v : ∀ q ∈ W.a, q.2.length <= 65536
 z : W.th = false -> W.d = []
theorem xHR {d nb : List Nat} {at_ : Nat} (h : d.length <= 65536) (h' : at_ + nb.length <= 65536) : (writeB d at_ nb).length <= 65536 := by
 unfold writeB
 split
 ·exact h
 ·simp [x80]
  omega
theorem xJ4 (d : List Nat) (at_ n : Nat) : (zeroB d at_ n).length = d.length := by
 unfold zeroB
 simp
 omega
theorem x2P {V : Type} (k : Key) (l : List (Key × V)) : ∀ q ∈ gdel k l, q ∈ l := fun q hq => (x70 k l q hq).2
theorem x2O {V : Type} {k : Key} {v : V} {l : List (Key × V)} {q : Key × V} (h : q ∈ gput k v l) : q = (k, v) ∨ q ∈ l := by
 rcases List.mem_cons.1 ((x3H k v l).mem_iff.1 h) with h | h
 ·exact .inl h
 ·exact .inr (x2P k l q h)
theorem xFP {n : Nat} {bl : List Bool} {W : Wk} {x : StepV} (h : WB n W) : WB (n + 1) (stepW bl W x).1 /\ (stepW bl W x).1.e = W.e := by
 have h0 : WB (n + 1) W := ⟨h.d, Nat.le_succ_of_le h.a, Nat.le_succ_of_le h.t, h.v, h.z⟩
 unfold stepW
 split
 ·exact ⟨h0, rfl⟩
 split
 ·unfold becomeW
  split
  ·exact ⟨h0, rfl⟩
  ·exact ⟨⟨by simp, by simp, h0.t, by simp, fun _ => rfl⟩, rfl⟩
 split
 ·unfold becomeW
  split
  ·exact ⟨h0, rfl⟩
  ·exact ⟨⟨by simp, by simp, h0.t, by simp, fun _ => rfl⟩, rfl⟩
 split
 ·split
  ·rename_i hth
   have hz : ∀ (W' : Wk), W'.th = W.th -> (W'.th = false -> W'.d = []) := fun W' e e' => by rw [e, hth] at e'; cases e'
   unfold insideW
   split
   ·split
    ·rename_i hn
     simp at hn
     exact ⟨⟨h.d, by have := x5Q (keyB x.nm) x.dt W.a; have := h.a; simp only; omega, h0.t, fun q hq => by
      rcases x2O hq with rfl | hq
      ·simp; omega
      ·exact h.v q hq, hz _ rfl⟩, rfl⟩
    ·exact ⟨h0, rfl⟩
   split
   ·exact ⟨⟨h.d, by have := x8V (keyB x.nm) W.a; have := h.a; simp only; omega, h0.t, fun q hq => h.v q (x2P _ _ q hq), hz _ rfl⟩, rfl⟩
   split
   ·split
    ·exact ⟨⟨h.d, h0.a, by have := h.t; simp; omega, h.v, hz _ rfl⟩, rfl⟩
    ·exact ⟨h0, rfl⟩
   split
   ·exact ⟨h0, rfl⟩
   rename_i hr
   split
   ·rename_i h8
    rw [h8] at hr
    simp [reachesB] at hr
    exact ⟨⟨xHR h.d (by omega), h0.a, h0.t, h.v, hz _ rfl⟩, rfl⟩
   split
   ·exact ⟨⟨by rw [xJ4]; exact h.d, h0.a, h0.t, h.v, hz _ rfl⟩, rfl⟩
   split
   ·rename_i h10
    rw [h10] at hr
    simp [reachesB] at hr
    exact ⟨⟨by rw [x80]; omega, h0.a, h0.t, h.v, hz _ rfl⟩, rfl⟩
   ·exact ⟨⟨h.d, h0.a, by have := h.t; simp; omega, h.v, hz _ rfl⟩, rfl⟩
  ·exact ⟨h0, rfl⟩
 ·exact ⟨h0, rfl⟩
theorem xJE {bl : List Bool} : ∀ {xs : List StepV} {n : Nat} {W : Wk}, WB n W -> WB (n + xs.length) (runW bl W xs).1 /\ (runW bl W xs).1.e = W.e
 | [], n, W, h => ⟨h, rfl⟩
 | x :: xs, n, W, h => by
  obtain ⟨h1, h2⟩ := xFP (bl := bl) (x := x) h
  rw [runW]
  split
  ·obtain ⟨h3, h4⟩ := xJE (bl := bl) (xs := xs) h1
   exact ⟨⟨h3.d, by have := h3.a; simp; omega, by have := h3.t; simp; omega, h3.v, h3.z⟩, h4.trans h2⟩
  ·exact ⟨⟨h1.d, by have := h1.a; simp; omega, by have := h1.t; simp; omega, h1.v, h1.z⟩, h2⟩
theorem xDG {n : Nat} {M : Mod} (h : Inv n M) (k : Key) : WB n (startW M k) := by
 unfold startW
 cases hg : gget M.ob k with
 | none => exact ⟨by simp, by simp, by simp, by simp, fun _ => rfl⟩
 | some o =>
  have := h.obs _ (x1O hg)
  exact ⟨this.d, this.a, by simp, this.v, fun e => by cases e⟩
theorem x6F {n : Nat} {M : Mod} (h : Inv n M) (k : Key) : (∀ e ∈ (startW M k).e, 1 <= e.2 /\ e.1 <= 65536 /\ e.2 <= 65536) /\ lens (startW M k).e <= 65536 /\ (startW M k).e.length <= 65536 /\ Good M.fl ((startW M k).e ++ exts (gdel k M.ob)) := by
 have hg := h.good.perm (xGA h.keys k)
 have hc := x8R hg
 have hl := h.len
 rw [x8X] at hc
 have hpos : ∀ e ∈ (startW M k).e, 1 <= e.2 := fun e he => hg.pos e (List.mem_append.2 (.inl he))
 have := x28 hpos
 refine ⟨fun e he => ?_, by omega, by omega, hg⟩
 have := hg.inn e (List.mem_append.2 (.inl he))
 have := hpos e he
 omega
theorem xNY {n : Nat} {M : Mod} (h : Inv n M) (k : Key) {m : Nat} (hm : m <= lens (startW M k).e) : OkA M.fl (shedR (startW M k).e.reverse m).2 true /\ (∀ e ∈ (shedR (startW M k).e.reverse m).2, 1 <= e.2 /\ e.1 <= 65536 /\ e.2 <= 65536) /\ (shedR (startW M k).e.reverse m).2.length <= 65536 := by
 obtain ⟨h1, h2, h3, h4⟩ := x6F h k
 obtain ⟨g1, g2, g3, g4, g5⟩ := h4.shed hm
 refine ⟨g1, fun e he => ?_, by omega⟩
 have := g4 e he
 have := h.len
 omega
theorem xN4 {fl fl' : List Bool} {W : Wk} {R es : List (Nat × Nat)} (h : Good fl (W.e ++ R)) (hf : FitR fl W es fl' 0) : Good fl' (es ++ R) /\ lens es = needsB W.d /\ fl'.length = fl.length := by
 cases hf with
 | give hlt =>
  obtain ⟨g1, g2, g3, g4, g5⟩ := h.shed (n := lens W.e - needsB W.d) (by omega)
  exact ⟨g2, by omega, g1.len⟩
 | take h1 h2 hc =>
  obtain ⟨g1, g2⟩ := h.take hc
  exact ⟨g1, by rw [x8X, g2]; omega, (hc.ok (x4K fl)).1.len⟩
theorem Inv.mono {n m : Nat} {M : Mod} (h : Inv n M) (hm : n <= m) : Inv m M := ⟨h.keys, Nat.le_trans h.few hm, h.len, h.bl, h.good, fun p hp => ⟨(h.obs p hp).d, (h.obs p hp).e, Nat.le_trans (h.obs p hp).a hm, (h.obs p hp).v⟩, h.nms⟩
theorem x76 {n k : Nat} {M M' : Mod} {nm : List Nat} {xs : List StepV} {told : List (List Nat)} (h : Inv n M) (hd : DoR M nm xs M' k told) : Inv (n + 16) M' /\ M'.fl.length = M.fl.length /\ M'.bl = M.bl := by
 cases hd with
 | range => exact ⟨h.mono (by omega), rfl, rfl⟩
 | step => exact ⟨h.mono (by omega), rfl, rfl⟩
 | full => exact ⟨h.mono (by omega), rfl, rfl⟩
 | @done es fl hn h1 h16 hr hf =>
  obtain ⟨hw, he⟩ := xJE (bl := M.bl) (xs := xs) (xDG h (keyB nm))
  generalize (runW M.bl (startW M (keyB nm)) xs).1 = W at *
  obtain ⟨-, -, -, hg⟩ := x6F h (keyB nm)
  rw [<- he] at hg
  obtain ⟨g1, g2, g3⟩ := xN4 hg hf
  have hdl : ∀ p ∈ gdel (keyB nm) M.ob, p ∈ M.ob := x2P _ _
  unfold endM
  cases hth : W.th
  ·simp only [Bool.false_eq_true, if_false]
   have hes : es = [] := by
    have : needsB W.d = 0 := by rw [hw.z hth]; rfl
    exact xIL (fun e he => g1.pos e (List.mem_append.2 (.inl he))) (by omega)
   subst hes
   refine ⟨⟨h.keys.del _, by have := x8V (keyB nm) M.ob; have := h.few; simp only; omega, by simp only; rw [g3]; exact h.len, h.bl, by simpa using g1, fun p hp => ?_, fun p hp => h.nms p (hdl p hp)⟩, g3, trivial⟩
   have := h.obs p (hdl p hp)
   exact ⟨this.d, this.e, by have := this.a; omega, this.v⟩
  ·simp only [if_true]
   refine ⟨⟨h.keys.put _ _, by have := x5Q (keyB nm) (⟨W.d, W.a, es⟩ : Ob) M.ob; have := h.few; simp only; omega, by simp only; rw [g3]; exact h.len, h.bl, g1.perm (xN0 (keyB nm) (⟨W.d, W.a, es⟩ : Ob)).symm, fun p hp => ?_, fun p hp => ?_⟩, g3, trivial⟩
   ·rcases x2O hp with rfl | hp
    ·exact ⟨hw.d, g2, by have := hw.a; simp only; omega, hw.v⟩
    ·have := h.obs p hp
     exact ⟨this.d, this.e, by have := this.a; omega, this.v⟩
   ·rcases x2O hp with rfl | hp
    ·exact ⟨nm, rfl, hn⟩
    ·exact h.nms p hp
end
end Go.Proofs.YtajajlbeiikcmaaGreatDoor
