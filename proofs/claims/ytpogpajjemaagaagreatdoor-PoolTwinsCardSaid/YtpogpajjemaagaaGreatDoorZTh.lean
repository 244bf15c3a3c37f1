/- Texts of the walk, joined. -/
import Derived.Test.YtpogpajjemaagaaGreatDoorZTg
import Derived.Shelf.SlIter.Nil
import Derived.Shelf.SortM.Plain
import Derived.Shelf.SortM.SortNone
import Derived.Test.YtpogpajjemaagaaGreatDoorProg
namespace Go.Proofs.YtpogpajjemaagaaGreatDoor
set_option linter.unusedSimpArgs false
set_option linter.unusedVariables false
set_option maxRecDepth 100000
open Go.Proofs.Tryz
set_option maxHeartbeats 16000000
open Go.RowKit Go.BigFrame
open List (all_eq_true append_assoc append_nil cons_append drop_eq_getElem_cons drop_of_length_le eq_nil_of_length_eq_zero ext_getElem? filter_cons filter_eq_self flatMap_append flatMap_cons flatMap_nil le_total le_trans length_cons length_map length_mergeSort length_replicate length_set length_take map_append map_congr_left map_cons map_id map_map map_nil mem_append mem_flatMap mem_of_getElem? mergeSort_perm nodup_nil pairwise_append pairwise_cons pairwise_mergeSort set_append_right sum_cons take_add_one take_append_drop take_length take_of_length_le)
variable {a : Act} {op : Oper} {x : StepV} {w w' w0 : World} {B b base c g gp gs k ms n r : Nat} {bl fl : List Bool} {A : OA} {kv l : KV} {F Z bs nm : LN} {s : SV} {M M' : Mod} {o : Ob} {ops : Array Oper} {Q : Exit -> Act -> World -> Prop} {told : List LN} {W : Wk} {xs : List StepV}
theorem x6F {x : Operand} {e : Int × Int} (ho : op.op = .load 198 x) (hx : a.eval x = .pointer (some ⟨g, 0, none⟩)) (h : Blk w g 198 #[.int .i64 e.1, .int .i64 e.2]) : (execOp a.eval op).run prog w = .ok (.value (.agg #[.int .i64 e.1, .int .i64 e.2])) w := by
 have hl := xEE h
 unfold execOp
 simp only [ho, hx, Instr.loadAt, Instr.sureAddr, Sem.run_bind, Sem.run_pure, kS, hl]
theorem xOO {a : Nat} (h : AllR fl a b true) : cnt (setR fl a b false) + b = cnt fl /\ (setR fl a b false).length = fl.length := by
 have h1 := OkA.cnt (es := [(a, b)]) (b := false) (l := fl) ⟨h, trivial⟩
 have e : setA fl [(a, b)] false = setR fl a b false := rfl
 rw [e] at h1
 simp [lens] at h1
 exact ⟨by omega, x0V h.1 false⟩
theorem x75 {fl' : List Bool} (h : fl'.length = fl.length) : foot gp r fl' = foot gp r fl := by
 unfold foot
 by_cases hf : fl = []
 ·have : fl' = [] := eq_nil_of_length_eq_zero (by rw [h, hf]; rfl)
  rw [if_pos hf, if_pos this]
 ·have : fl' ≠ [] := fun e => hf (eq_nil_of_length_eq_zero (by rw [<- h, e]; rfl))
  rw [if_neg hf, if_neg this]
theorem xL7 {go mb c1 : Nat} {D : OA} {kvs : KV} {d : LN} {al : AL} {s : RD} (hst : StAt w gs ms gp r c1 A bl fl kvs) (hO : ObAt w go mb c 0 D none kv ⟨d, al, []⟩) (hR : Srd w base F (some ⟨g, 0, none⟩) s) (hB : base <= w0.heap.size) (hs : s.bs.length <= 1000000) (hd : d.length <= 65536)
 (hon : Only (g :: foot gp r fl) w0 w) (hgo : w0.heap.size <= go) (hmb : w0.heap.size <= mb) (hgs : gs < w0.heap.size) (hms : ms < w0.heap.size) (hfo : ∀ k ∈ foot gp r fl, k < w0.heap.size) (hF : ∀ k ∈ F, k ∉ foot gp r fl) (hFg : ∀ k ∈ F, k < w0.heap.size) :
    Calls prog 189 #[.pointer (some ⟨gs, 0, none⟩), .pointer (some ⟨go, 0, none⟩), .pointer (some ⟨g, 0, none⟩)] w (TkETo w0 base g go mb c gs ms gp r c1 D A bl fl kvs kv ⟨d, al, []⟩ F s) := by
  have HR := kH (x1P w base F (some ⟨g, 0, none⟩) s hR (kT hB hon.size))
  have H0 := kH (kA hst (kA hO (kA hR (kA hB (kA hs hd)))))
  have HP := kH (kA hgo (kA hmb (kA hgs (kA hms (kA hfo (kA hF hFg))))))
  have HW := kH hon
  have hfl := hst.sp.lim
  obtain ⟨N, hN⟩ := kX s.num
  have hNr := x16 s
  have HT := kH (kA hN (RD.take_le s 8))
  rw [<- hN] at HR hNr
  clear hst hO hR hs hon hgo hmb hgs hms hfo hF hFg hN
  go_enter func189, ntmps189
  go_wp2_with fail
  refine HR.out.mono ?_
  rintro e w1 ⟨rfl, F1, r1, o1, f1⟩
  have O1 := H0.out.2.1.rd o1 H0.out.2.2.1.readers
  have S1 := H0.out.1.rd o1 H0.out.2.2.1.readers
  have N1 : Only (g :: foot gp r fl) w0 w1 := HW.out.trans o1 (fun k hk => by simp [heads] at hk; simp [hk])
  have H1 := kH (kA f1 (kA r1 (kA O1 (kA S1 N1))))
  clear r1 o1 f1 O1 HR S1 N1
  go_wp2_with fail
  go_loopw [10] (fun iv wr => ∃ (k : Nat) (es : List (Nat × Nat)) (fk : List Bool) (sk : RD) (Fk : LN) (ce' : Nat) (E' : OA), iv = .int .i64 k /\ (k = 0 ∨ (k : Int) <= N) /\ tkE s.num.toNat (s.take 8) fl [] = tkE (N.toNat - k) sk fk es /\ StAt wr gs ms gp r c1 A bl fk kvs /\ fk.length = fl.length /\ ObAt wr go mb c ce' D E' kv ⟨d, al, es⟩ /\ (∀ b ∈ rowOf (.slice E' es.length ce'), w0.heap.size <= b) /\ Srd wr base Fk (some ⟨g, 0, none⟩) sk /\ (∀ k ∈ Fk, k ∈ F) /\ Only (g :: foot gp r fl) w0 wr /\ lens es + cnt fk = cnt fl /\ (∀ e ∈ es, 1 <= e.2) /\ sk.bs.length <= s.bs.length) (fun iv _ => N.toNat - (intS iv).toNat)
  case atStart => exact ⟨0, [], fl, s.take 8, F1, 0, none, rfl, .inl rfl, by rw [HT.out.1]; rfl, H1.out.2.2.2.1, rfl, H1.out.2.2.1, (fun b hb => by simp [rowOf, Value.ownBlock] at hb), H1.out.2.1, H1.out.1, H1.out.2.2.2.2, by simp [lens], (fun e he => by cases he), HT.out.2⟩
  case round =>
    obtain ⟨k, es, fk, sk, Fk, ce', E', rfl, hk, htk, hSk, hfk, hOk, hEk, hRk, hFk, honk, hcnt, hpos, hle⟩ := hrel
    have hsz := honk.size
    by_cases hlt : (k : Int) < N
    -- {A
    · have hdk : decide ((k : Int) < N) = true := decide_eq_true hlt
      have hwk := wK k (by omega)
      obtain ⟨j, hj⟩ : ∃ j, N.toNat - k = j + 1 := ⟨N.toNat - k - 1, by omega⟩
      have hj2 : N.toNat - (k + 1) = j := by omega
      rw [hj, tkE] at htk
      have hlt' := hlt
      clear hj
      have hwB : base <= wr.heap.size := kT H0.out.2.2.2.1 hsz
      have HX := kH (x1P wr base Fk (some ⟨g, 0, none⟩) sk hRk hwB)
      have HK := kH (kA htk (kA hSk (kA hfk (kA hOk (kA hEk (kA hRk (kA hFk (kA honk (kA hcnt (kA hpos (kA hle (kA hj2 hwB))))))))))))
      have hxr := x16 sk
      have hyr := x16 (sk.take 8)
      obtain ⟨x, hx⟩ := kX sk.num
      obtain ⟨y, hy⟩ := kX ((sk.take 8).num)
      have HXY := kH (kA hx hy)
      rw [<- hx] at HX hxr
      rw [<- hy] at hyr
      have hI : InI (x, y) := ⟨hxr, hyr⟩
      clear htk hSk hfk hOk hEk hRk hFk honk hcnt hpos hle hj2 hx
      go_wp2_with fail
      refine HX.out.mono ?_
      rintro e w2 ⟨rfl, F2, r2, o2, f2⟩
      have HY := kH (x1P w2 base F2 (some ⟨g, 0, none⟩) (sk.take 8) r2 (kT hwB o2.size))
      rw [<- hy] at HY
      have H2 := kH (kA r2 (kA o2 f2))
      clear r2 o2 f2 HX hy
      go_wp2_with fail
      refine HY.out.mono ?_
      rintro e w3 ⟨rfl, F3, r3, o3, f3⟩
      have H3 := kH (kA r3 (kA o3 f3))
      clear r3 o3 f3 HY
      go_upto_region 4 with (fail)
      obtain ⟨w4, hw4⟩ := kX (w3.alloc (.cells #[.int .i64 x, .int .i64 y] 198))
      obtain ⟨ge, hge⟩ := kX w3.heap.size
      have hb4 : Below w3.heap.size w3 w4 := by rw [hw4]; exact (kB _ _).alloc (kR _) _
      have K4 : Blk w4 ge 198 #[.int .i64 x, .int .i64 y] := by rw [hw4, hge]; exact kW _ _ _
      have hz2 := H2.out.2.1.size
      have hz3 := H3.out.2.1.size
      have S4 : StAt w4 gs ms gp r c1 A bl fk kvs := ((HK.out.2.1.rd H2.out.2.1 HK.out.2.2.2.2.2.1.readers).rd H3.out.2.1 H2.out.1.readers).below hb4
      have O4 : ObAt w4 go mb c ce' D E' kv ⟨d, al, es⟩ := ((HK.out.2.2.2.1.rd H2.out.2.1 HK.out.2.2.2.2.2.1.readers).rd H3.out.2.1 H2.out.1.readers).below hb4
      have R4 := H3.out.1.below hb4
      have N4 : Only (g :: foot gp r fl) w0 w4 := ((HK.out.2.2.2.2.2.2.2.1.trans H2.out.2.1 (fun k hk => by simp [heads] at hk; simp [hk])).trans H3.out.2.1 (fun k hk => by simp [heads] at hk; simp [hk])).trans (kO hb4 []) (fun k hk => by cases hk)
      have hgew : w0.heap.size <= ge := by omega
      have hge4 : ge < w4.heap.size := K4.lt
      have HGE : Hid (wr.heap.size <= ge) := kH (by omega)
      have H4 := kH (kA S4 (kA O4 (kA R4 (kA N4 (kA K4 (kA hgew hge4))))))
      rw [<- hw4, <- hge]
      clear hw4 hge hb4 hz2 hz3 R4 N4 hgew
      have HC : Hid (∀ w', TwoE gs ge 122 (stC ms bl gp) (x, y) w' -> w'.cell? ⟨gs, 9, none⟩ = some (.pointer (some ⟨gp, 0, none⟩))) := kH fun w' h => (show StAt w4 gs ms gp r c1 A bl fk kvs from S4).c9_of h.1
      have hS : TwoE gs ge 122 (stC ms bl gp) (x, y) w4.drew := ⟨S4.blk.drew, K4.drew⟩
      clear S4 O4 K4
      refine x09 (TwoE gs ge 122 (stC ms bl gp) (x, y)) 99 (by kernel_rfl) ?_
      refine tV 0 (.pointer (some ⟨gs, 0, none⟩)) rfl (fun w hw => by kernel_rfl) hS ?_
      refine tV 1 (.pointer (some ⟨gs, 0, none⟩)) rfl (fun w hw => by kernel_rfl) hS ?_
      refine tV 2 (.pointer (some ⟨gs, 9, none⟩)) rfl (fun w hw => by go_simp) hS ?_
      refine tV 3 (.pointer (some ⟨gp, 0, none⟩)) rfl (fun w hw => by have q := HC.out w hw; go_simp) hS ?_
      refine tV 4 (.agg #[.int .i64 x, .int .i64 y]) rfl (fun w hw => by exact x6F (e := (x, y)) rfl rfl hw.2) hS ?_
      have hbx : (Instr.buildSlice 135 1 #[(0, .agg #[.int .i64 x, .int .i64 y])]).run prog w4.drew = .ok (.slice (some ⟨w4.drew.heap.size, 0, none⟩) 1 1) (w4.drew.alloc (.cells #[.int .i64 x, .int .i64 y] 198)) := x2F (x, y) w4.drew
      refine tO 5 ?_
      refine x0A (v := .slice (some ⟨w4.drew.heap.size, 0, none⟩) 1 1) (w' := w4.drew.alloc (.cells #[.int .i64 x, .int .i64 y] 198)) (by go_simp) ⟨⟨hS.1.alloc _, hS.2.alloc _⟩, ?_⟩
      simp only [nH, pu, nB, nC, nD]
      have hb5 : Below w4.heap.size w4 (w4.drew.alloc (.cells #[.int .i64 x, .int .i64 y] 198)) := (x08 (kB _ _) 1).alloc (kR _) _
      have hE5 : ExtR (w4.drew.alloc (.cells #[.int .i64 x, .int .i64 y] 198)) (w4.drew.heap.size + 1) (some ⟨w4.drew.heap.size, 0, none⟩) [(x, y)] := Reads.newN w4.drew (extS [(x, y)]) 1 2 198 (0, 0) rfl
      have S5 := H4.out.1.below hb5
      have HCL := kH (xHT (x, y) hI S5.sp S5.ne (some ⟨w4.drew.heap.size, 0, none⟩) 1 (kR _) hE5 (by simp) (fun ad e hm => by
        injection e with e
        subst e
        rw [x75 HK.out.2.2.1] at hm
        have h1 := HP.out.2.2.2.2.1 _ hm
        have h2 := H4.out.2.2.2.1.size
        have h3 : w4.drew.heap.size = w4.heap.size := rfl
        simp only at h1
        omega))
      obtain ⟨w5, hw5⟩ := kX (w4.drew.alloc (.cells #[.int .i64 x, .int .i64 y] 198))
      rw [<- hw5] at hb5 S5 HCL hE5 ⊢
      refine tO 6 ?_
      refine x03 (by kernel_rfl) HCL.out ?_
      rintro e w6 ⟨ho6, hcase⟩
      have hgsf : gs ∉ foot gp r fk := fun hm => S5.sp.foot_odd (by decide) (by decide) hm _ S5.blk
      have hmsf : ms ∉ foot gp r fk := fun hm => by
        obtain ⟨t, cs, hb, _⟩ := S5.sp.foot_typed hm
        exact S5.map.ne_blk hb rfl
      have K5 : Blk w5 ge 198 #[.int .i64 x, .int .i64 y] := H4.out.2.2.2.2.1.of (hb5.block _ H4.out.2.2.2.2.1.lt)
      have hgef : ge ∉ foot gp r fk := fun hm => S5.sp.foot_odd (by decide) (by decide) hm _ K5
      have K6 := K5.of (ho6.block _ K5.lt hgef)
      have G6 := S5.blk.of (ho6.block _ S5.blk.lt hgsf)
      have hFk : ∀ b ∈ F3, b ∈ F := fun b hb => HK.out.2.2.2.2.2.2.1 b (H2.out.2.2 b (H3.out.2.2 b hb))
      have O6 : ObAt w6 go mb c ce' D E' kv ⟨d, al, es⟩ := (H4.out.2.1.below hb5).foot S5.sp ho6
      have R5 := H4.out.2.2.1.below hb5
      have R6 : Srd w6 base F3 (some ⟨g, 0, none⟩) ((sk.take 8).take 8) := R5.of ho6.size (fun b hb => ho6.block b (R5.under b hb) (fun hm => HP.out.2.2.2.2.2.1 b (hFk b hb) (by rw [<- x75 HK.out.2.2.1]; exact hm)))
      have N6 : Only (g :: foot gp r fl) w0 w6 := (H4.out.2.2.2.1.trans (kO hb5 []) (fun k hk => by cases hk)).trans ho6 (fun b hb => .inl (kM _ (by rw [<- x75 HK.out.2.2.1]; exact hb)))
      have hs56 := ho6.size
      have hs45 := hb5.size
      have H6 := kH (kA O6 (kA R6 (kA N6 (kA K6 (kA hFk G6)))))
      rcases hcase with ⟨hfr, rfl, hs6⟩ | ⟨hfr, rfl, hs6⟩
      -- {Y
      · have S6 : StAt w6 gs ms gp r c1 A bl (setR fk x.toNat y.toNat false) kvs := S5.turned ho6 hgsf hmsf hs6
        have HS6 := kH (kA S6 hfr)
        have hge6 : ge < w6.heap.size := K6.lt
        clear S6 O6 R6 N6 R5 hgsf hmsf K5 hgef hS HC hE5 hbx HCL S5 hb5 hw5 hs6 hfr ho6 hFk
        refine ⟨_, rfl, ⟨G6, K6⟩, ?_⟩
        simp only [nH, pu, nB, nC, nD]
        refine tO 7 ?_
        refine x0A (v := .bool false) (w' := w6) (by go_simp) ⟨⟨G6, K6⟩, ?_⟩
        simp only [nH, pu, nB, nC, nD]
        refine tE ?_
        clear G6 K6
        go_upto_region 6 with (fail)
        have HO : Hid (∀ w', TwoE go ge 137 (objC D d.length c (.map (some mb)) E' es.length ce') (x, y) w' -> w'.cell? ⟨go, 2, none⟩ = some (.slice E' es.length ce')) := kH fun w' h => h.1.cell 2
        have hS : TwoE go ge 137 (objC D d.length c (.map (some mb)) E' es.length ce') (x, y) w6.drew := ⟨H6.out.1.blk.drew, H6.out.2.2.2.1.drew⟩
        refine x09 (TwoE go ge 137 (objC D d.length c (.map (some mb)) E' es.length ce') (x, y)) 10 (by kernel_rfl) ?_
        refine tU 0 (.pointer (some ⟨go, 0, none⟩)) rfl (fun w hw => by kernel_rfl) hS ?_
        refine tU 1 (.pointer (some ⟨go, 0, none⟩)) rfl (fun w hw => by kernel_rfl) hS ?_
        refine tU 2 (.pointer (some ⟨go, 0, none⟩)) rfl (fun w hw => by kernel_rfl) hS ?_
        refine tU 3 (.pointer (some ⟨go, 2, none⟩)) rfl (fun w hw => by go_simp) hS ?_
        refine tU 4 (.slice E' es.length ce') rfl (fun w hw => by have q := HO.out w hw; go_simp) hS ?_
        refine tU 5 (.agg #[.int .i64 x, .int .i64 y]) rfl (fun w hw => by exact x6F (e := (x, y)) rfl rfl hw.2) hS ?_
        have hbx : (Instr.buildSlice 135 1 #[(0, .agg #[.int .i64 x, .int .i64 y])]).run prog w6.drew = .ok (.slice (some ⟨w6.drew.heap.size, 0, none⟩) 1 1) (w6.drew.alloc (.cells #[.int .i64 x, .int .i64 y] 198)) := x2F (x, y) w6.drew
        refine tO 6 ?_
        refine x0A (v := .slice (some ⟨w6.drew.heap.size, 0, none⟩) 1 1) (w' := w6.drew.alloc (.cells #[.int .i64 x, .int .i64 y] 198)) (by go_simp) ⟨⟨hS.1.alloc _, hS.2.alloc _⟩, ?_⟩
        simp only [nH, pu, nB, nC, nD]
        have hb7 : Below w6.heap.size w6 (w6.drew.alloc (.cells #[.int .i64 x, .int .i64 y] 198)) := (x08 (kB _ _) 1).alloc (kR _) _
        have hE7 : Reads (w6.drew.alloc (.cells #[.int .i64 x, .int .i64 y] 198)) (w6.drew.heap.size + 1) 2 (some ⟨w6.drew.heap.size, 0, none⟩) 1 (ext1 (x, y)) := Reads.newN w6.drew (ext1 (x, y)) 1 2 198 (0, 0) rfl
        have O7 := H6.out.1.below hb7
        have K7 := H6.out.2.2.2.1.of (hb7.block _ H6.out.2.2.2.1.lt)
        obtain ⟨i0, hi0, hz0, hz1, hz2⟩ := info_parts x3G
        refine tO 7 ?_
        have hx7 := O7.ext
        have hcn := HK.out.2.2.2.2.2.2.2.2.1
        have hel := x2E HK.out.2.2.2.2.2.2.2.2.2.1
        have hcl := x7E fl
        have hes : es.length <= 65536 := by omega
        unfold OwnE at hx7
        rw [x0T] at hx7
        refine x1A _ (.tmp 29) (.tmp 31) 135 rfl 0 198 i0 _ 2 16 underlying135 hi0 hz0 hz1 hz2 rfl (by omega) (.slice E' es.length ce') es.length _ rfl hx7 _ (some ⟨w6.drew.heap.size, 0, none⟩) 1 1 (ext1 (x, y)) rfl hE7 (by intro u hu; simp [ext1] at hu; rcases hu with rfl | rfl <;> rfl) (by simp only [maxLen]; omega) (by omega) (kY _) ?_
        intro v' w7 hown hgr hor
        have hTg : some go ≠ (Value.slice E' es.length ce').ownBlock := fun e => by
          obtain ⟨cs, hb⟩ := x0J hx7 e.symm
          exact O7.blk.ne_ hb (by decide) rfl
        have hTe : some ge ≠ (Value.slice E' es.length ce').ownBlock := fun e => by
          have h1 := x02 HK.out.2.2.2.1.ext ge (x00.2 e.symm)
          have h2 := HGE.out
          omega
        have G7 := O7.blk.grown hgr hTg
        have E7 := K7.grown hgr hTe
        refine ⟨⟨G7, E7⟩, ?_⟩
        simp only [nH, pu, nB, nC, nD]
        refine tO 8 ?_
        refine x0A (v := .pointer (some ⟨go, 0, none⟩)) (w' := w7) (by go_simp) ⟨⟨G7, E7⟩, ?_⟩
        simp only [nH, pu, nB, nC, nD]
        refine tO 9 ?_
        refine x0A (v := .pointer (some ⟨go, 2, none⟩)) (w' := w7) (by kernel_rfl) ⟨⟨G7, E7⟩, ?_⟩
        simp only [nH, pu, nB, nC, nD]
        obtain ⟨E2, ce2, rfl⟩ : ∃ E2 ce2, v' = .slice E2 (es.length + 1) ce2 := by
          rcases hown.2 with ⟨_, h0⟩ | ⟨g', cap', cur, e, _⟩
          · omega
          · exact ⟨_, _, e⟩
        refine tZ ?_
        refine x2N 135 (.tmp 34) (.tmp 32) (by rfl) go 2 137 _ (.slice E2 (es.length + 1) ce2) (by rfl) (by rfl) G7 (by simp [objC]) (by kernel_rfl) rfl ?_
        refine NoPanic.normal ?_
        obtain ⟨w8, hw8⟩ := kX (w7.setCell ⟨go, 2, none⟩ (.slice E2 (es.length + 1) ce2))
        have hon7 : Only (go :: rowOf (.slice E' es.length ce')) w6 w7 := ((kO hb7 []).trans (F' := []) (kU _ _) (kF _ _) |>.mono (fun k hk => by cases hk)).grown hgr (fun b hg => .inl (by simp [x00, hg]))
        have hon78 : Only [go] w7 w8 := by rw [hw8]; exact (kU _ _).setCell (.inl (by simp)) _
        have hon8 : Only (go :: rowOf (.slice E' es.length ce')) w6 w8 := hon7.trans hon78 (fun k hk => .inl (by simp at hk; simp [hk]))
        have G8 : Blk w8 go 137 (objC D d.length c (.map (some mb)) E2 (es ++ [(x.toNat, y.toNat)]).length ce2) := by
          rw [hw8, kN]
          exact G7.set_ 2 _
        obtain ⟨a, b, hxa, hyb, hb1, hall⟩ := x4P.1 HS6.out.2
        have hxt : x.toNat = a := by omega
        have hyt : y.toNat = b := by omega
        have hone : natE (es ++ [(x.toNat, y.toNat)]) = natE es ++ [(x, y)] := by
          simp only [natE, map_append, map_cons, map_nil]
          rw [hxt, hyt, <- hxa, <- hyb]
        have hown8 : OwnE w8 0 (.slice E2 (es ++ [(x.toNat, y.toNat)]).length ce2) (natE (es ++ [(x.toNat, y.toNat)])) := by
          have h1 := x0N hown hon78 (fun k hk => by simp at hk; subst hk; exact Odd.blk G7 (by decide))
          unfold OwnE
          rw [hone, kN, kN, x0T, extS, flatMap_append, flatMap_cons, flatMap_nil, append_nil]
          exact h1
        have O8 := H6.out.1.more G8 hown8 hon8
        have hrow : ∀ b ∈ rowOf (.slice E' es.length ce'), w0.heap.size <= b := HK.out.2.2.2.2.1
        have hrow8 : ∀ b ∈ rowOf (.slice E2 (es ++ [(x.toNat, y.toNat)]).length ce2), w0.heap.size <= b := fun b hb => by
          rcases hor with h | h
          · refine hrow b (x00.2 ?_)
            rw [<- h, <- x00.1 hb]
            cases E2 <;> rfl
          · have h2 : (Value.slice E2 (es.length + 1) ce2).ownBlock = some b := by
              rw [<- x00.1 hb]
              cases E2 <;> rfl
            rw [h] at h2
            injection h2 with h2
            have h3 : w6.drew.heap.size = w6.heap.size := rfl
            have h4 := H6.out.2.2.1.size
            simp at h2
            omega
        have S8 : StAt w8 gs ms gp r c1 A bl (setR fk x.toNat y.toNat false) kvs := HS6.out.1.typed hon8 (fun k hk => by
          rcases kQ hk with rfl | hk
          · exact ⟨_, _, H6.out.1.blk, by decide, by decide, by decide⟩
          · obtain ⟨cs, hb⟩ := x0J H6.out.1.ext (x00.1 hk)
            exact ⟨_, _, hb, by decide, by decide, by decide⟩)
        have R8 : Srd w8 base F3 (some ⟨g, 0, none⟩) ((sk.take 8).take 8) := H6.out.2.1.of hon8.size (fun b hb => hon8.block b (H6.out.2.1.under b hb) (fun hm => by
          have h1 := HP.out.2.2.2.2.2.2 b (H6.out.2.2.2.2.1 b hb)
          rcases kQ hm with e | hm
          · have := HP.out.1; omega
          · have := hrow b hm; omega))
        have N8 : Only (g :: foot gp r fl) w0 w8 := H6.out.2.2.1.trans hon8 (fun k hk => by
          rcases kQ hk with e | hk
          · exact .inr (by rw [e]; exact HP.out.1)
          · exact .inr (hrow k hk))
        rw [<- hxt, <- hyt] at hall
        obtain ⟨hc1, hc2⟩ := xOO hall
        have hlens : lens (es ++ [(x.toNat, y.toNat)]) = lens es + y.toNat := by simp [lens]
        have htk8 : tkE s.num.toNat (s.take 8) fl [] = tkE (N.toNat - (k + 1)) ((sk.take 8).take 8) (setR fk x.toNat y.toNat false) (es ++ [(x.toNat, y.toNat)]) := by
          rw [HK.out.1, HK.out.2.2.2.2.2.2.2.2.2.2.2.1, <- HXY.out.1, <- HXY.out.2, if_pos HS6.out.2]
        have hle8 : ((sk.take 8).take 8).bs.length <= s.bs.length := by
          have h1 := RD.take_le sk 8
          have h2 := RD.take_le (sk.take 8) 8
          have h3 := HK.out.2.2.2.2.2.2.2.2.2.2.1
          omega
        have hcnt8 : lens (es ++ [(x.toNat, y.toNat)]) + cnt (setR fk x.toNat y.toNat false) = cnt fl := by rw [hlens]; omega
        have hpos8 : ∀ e ∈ es ++ [(x.toNat, y.toNat)], 1 <= e.2 := fun e he => by
          rcases mem_append.1 he with he | he
          · exact HK.out.2.2.2.2.2.2.2.2.2.1 e he
          · simp at he; subst he; simp only; omega
        have hflen : (setR fk x.toNat y.toNat false).length = fl.length := hc2.trans HK.out.2.2.1
        rw [<- hw8]
        have HFIN := kH (kA htk8 (kA S8 (kA hflen (kA O8 (kA hrow8 (kA R8 (kA H6.out.2.2.2.2.1 (kA N8 (kA hcnt8 (kA hpos8 hle8))))))))))
        clear htk8 S8 hflen O8 hrow8 R8 N8 hcnt8 hpos8 hle8 hlens hc1 hc2 hall hrow hown8 hone G8 hon8 hon78 hon7 hw8 hown hgr hor hTg hTe G7 E7 hx7 O7 K7 hE7 hb7 hbx hS HO hxa hyb hxt hyt hcn hel hcl
        go_wp2_with fail
        go_roundw
        case rel => exact ⟨k + 1, _, _, _, F3, ce2, E2, by go_num, .inr (by omega), HFIN.out⟩
        case measure => simp [intS]; omega
      -- Y}
      -- {Z
      · have hnone : tkE s.num.toNat (s.take 8) fl [] = none := by
          rw [HK.out.1, <- HXY.out.1, <- HXY.out.2, if_neg (by rw [hfr]; simp)]
        have HFIN := kH (show TkETo w0 base g go mb c gs ms gp r c1 D A bl fl kvs kv ⟨d, al, []⟩ F s (.returned (.bool false)) w6 from ⟨N6, .inl ⟨hnone, rfl⟩⟩)
        clear hnone O6 R6 N6 R5 hgsf hmsf K5 hgef hS HC hE5 hbx HCL S5 hb5 hw5 hs6 hfr ho6 hFk
        refine ⟨_, rfl, ⟨G6, K6⟩, ?_⟩
        simp only [nH, pu, nB, nC, nD]
        refine tO 7 ?_
        refine x0A (v := .bool true) (w' := w6) (by simp only [errV]; go_simp) ⟨⟨G6, K6⟩, ?_⟩
        simp only [nH, pu, nB, nC, nD]
        refine tE ?_
        clear G6 K6
        go_wp2
        go_ret
        exact HFIN.out
      -- Z}
    -- A}
    · have hdk : decide ((k : Int) < N) = false := decide_eq_false hlt
      have hj : N.toNat - k = 0 := by omega
      rw [hj, tkE] at htk
      have hel := x2E hpos
      have hcl := x7E fl
      have HHAS := kH (xBG (w := wr) (g := go) (B := wr.heap.size) (es := es) (hOk.blk.cell 2) (OwnE.ext (by rw [x0T]; exact hOk.ext)) (kR _) (by omega) (by omega))
      have HK := kH (kA htk (kA hSk (kA hfk (kA hOk (kA hRk (kA hFk (kA honk hle)))))))
      clear htk hSk hfk hOk hEk hRk hFk honk hcnt hpos hle hel hcl
      go_wp2_with fail
      refine HHAS.out.mono ?_
      rintro e w2 ⟨rfl, hb2⟩
      have O2 := HK.out.2.2.2.1.below hb2
      have HND := kH (xC3 (w := w2) (g := go) (O2.blk.cell 0) (by simp only; omega))
      have HFIN := kH (show TkETo w0 base g go mb c gs ms gp r c1 D A bl fl kvs kv ⟨d, al, []⟩ F s (.returned (.bool (decide (lens es = needsB d)))) w2 from ⟨HK.out.2.2.2.2.2.2.1.trans (kO hb2 []) (fun k hk => by cases hk), .inr ⟨es, fk, sk, ce', E', Fk, HK.out.1, rfl, HK.out.2.1.below hb2, HK.out.2.2.1, O2, HK.out.2.2.2.2.1.below hb2, HK.out.2.2.2.2.2.1, HK.out.2.2.2.2.2.2.2⟩⟩)
      clear O2 hb2 HHAS
      go_wp2_with fail
      refine HND.out.mono ?_
      rintro e w3 ⟨rfl, rfl⟩
      have hdec : ((lens es : Int) == ((d.length : Int) + 15) / 16) = decide (lens es = needsB d) := by
        unfold needsB
        rw [Bool.eq_iff_iff, beq_iff_eq, decide_eq_true_eq]
        omega
      go_wp2
      go_ret
      exact HFIN.out
theorem StAt.off {G : LN} (h : StAt w gs ms gp r c A bl fl kv) (ho : Only G w w') (hG : ∀ k ∈ G, k ≠ gs /\ k ≠ ms /\ k ∉ foot gp r fl) : StAt w' gs ms gp r c A bl fl kv := by
 refine ⟨h.blk.of (ho.block _ h.blk.lt fun hm => (hG _ hm).1 rfl), h.len, h.map.of (ho.block _ h.map.lt fun hm => (hG _ hm).2.1 rfl), ⟨h.sp.blk.of (ho.block _ h.sp.blk.lt fun hm => (hG _ hm).2.2 (by unfold foot; split <;> simp)), h.sp.cap, h.sp.lim, ?_⟩, h.ne⟩
 rcases h.sp.row with e | ⟨e, cs, hb, hc⟩
 ·exact .inl e
 ·by_cases hf : fl = []
  ·exact .inl hf
  ·exact .inr ⟨e, cs, hb.of (ho.block _ hb.lt fun hm => (hG _ hm).2.2 (by unfold foot; rw [if_neg hf]; simp)), hc⟩
theorem x6Y {G : LN} {ob : List (Key × Ob)} (h : Rel2 (ObjR w Z) kv ob) (ho : Only G w w') (hG : ∀ k ∈ G, ∃ t cs, Blk w k t cs /\ t ≠ 137 /\ t ≠ 5 /\ t ≠ 198) : Rel2 (ObjR w' Z) kv ob :=
 h.imp fun a b hr => ⟨hr.1, by
  obtain ⟨go, mb, c1, ce, D, E, kv1, e, hmb, hat⟩ := hr.2
  refine ⟨go, mb, c1, ce, D, E, kv1, e, hmb, hat.only ho (fun k hk hl => ?_) (fun hm => ?_)⟩
  ·obtain ⟨t, cs, hb, h1, h2, h3⟩ := hG k hk
   exact ⟨Odd.blk hb h1, Odd.blk hb h2, Odd.blk hb h3⟩
  ·obtain ⟨t, cs, hb, _⟩ := hG _ hm
   exact hat.map.ne_blk hb rfl⟩
def TkOTo (w : World) (Z : LN) (base g gs ms gp r c1 : Nat) (A : OA) (M : Mod) (F : LN) (s : RD) (e : Ending) (w' : World) : Prop :=
  Only (g :: ms :: foot gp r M.fl) w w' /\ ((tkO s M = none /\ e = .returned (.bool false)) ∨ ∃ M' s' kv' F', tkO s M = some (M', s') /\ e = .returned (.bool true) /\ StoreAt w' Z gs ms gp r c1 A M' kv' /\ Srd w' base F' (some ⟨g, 0, none⟩) s' /\ (∀ k ∈ F', k ∈ F) /\ M'.fl.length = M.fl.length /\ M'.ob.length <= M.ob.length + 1 /\ s'.bs.length + 9 <= s.bs.length)
theorem xIO {c1 : Nat} {kvs : KV} {s : RD} (hS : StoreAt w Z gs ms gp r c1 A M kvs) (hZ : ms ∈ Z) (hZl : ∀ z ∈ Z, z < w.heap.size) (hR : Srd w base F (some ⟨g, 0, none⟩) s) (hB : base <= w.heap.size) (hs : s.bs.length <= 1000000) (hob : M.ob.length <= 1000000) (hF : ∀ k ∈ F, k ∉ ms :: foot gp r M.fl) :
  Calls prog 123 #[.pointer (some ⟨gs, 0, none⟩), .pointer (some ⟨g, 0, none⟩)] w (TkOTo w Z base g gs ms gp r c1 A M F s) := by
 have hnsm : ∀ b ∈ s.bytes, b < 256 := RD.got_lt (RD.take_good hR.good 8) _
 have hnl : s.bytes.length <= 1000000 := by have := RD.got_le (s.take 8) s.num; have := RD.take_le s 8; unfold RD.bytes; omega
 have hdl : s.bytesTo.bytes.length <= 1000000 := by have := RD.got_le (s.bytesTo.take 8) s.bytesTo.num; have := RD.take_le s.bytesTo 8; have := RD.bytesTo_le s; unfold RD.bytes at *; omega
 have hgsl := hS.st.blk.lt
 have hmsl := hS.st.map.lt
 have hfol : ∀ k ∈ foot gp r M.fl, k < w.heap.size := fun k hk => hS.st.sp.foot_lt hk
 have hFl := hR.under
 have HX := kH (x8I w base F (some ⟨g, 0, none⟩) s hR hB)
 have H0 := kH (kA hS (kA hR (kA hB (kA hs (kA hob hF)))))
 have HN0 := kH (kA hnsm (kA hnl hdl))
 have HL := kH (kA hgsl (kA hmsl (kA hfol hFl)))
 have hmm := @run_makeMap prog
 have hbd : ∀ (D : OA) (n c m : Nat) (w : World), (Instr.build 137 #[(0, .slice D n c), (1, .map (some m))]).run prog w = .ok (.agg #[.slice D n c, .map (some m), .slice none 0 0]) w := fun D n c m w => by kernel_rfl
 have HZ := kH (kA hZ hZl)
 clear hS hR hs hob hF hnsm hnl hdl hgsl hmsl hfol hFl hZ hZl
 go_enter func123, ntmps123
 go_wp2_with fail
 refine HX.out.mono ?_
 rintro e w1 ⟨rfl, F1, r1, o1, f1⟩
 have HY := kH (x6R w1 base F1 (some ⟨g, 0, none⟩) s.bytesTo r1 (kT hB o1.size) (by have := H0.out.2.2.2.1; have := RD.bytesTo_le s; omega))
 have H1 := kH (kA r1 (kA o1 f1))
 clear r1 o1 f1 HX
 go_wp2_with fail
 refine HY.out.mono ?_
 rintro e w2 ⟨v, F2, rfl, hov, r2, o2, f2, hvs, -⟩
 obtain ⟨D, c, rfl, -⟩ := hov.form
 obtain ⟨d, hd⟩ := kX s.bytesTo.bytes
 rw [<- hd] at hov hvs ⊢
 have hdl : d.length <= 1000000 := by rw [hd]; exact HN0.out.2.2
 have HD := kH hd
 have H2 := kH (kA hov (kA r2 (kA o2 (kA f2 hvs))))
 clear hov r2 o2 f2 hvs HY hd
 have m1 : SMap prog 9 (w2.alloc (.map #[] 0)) w2.heap.size [] := SMap.new w2
 have s1 : (w2.alloc (.map #[] 0)).heap.size = w2.heap.size + 1 := kJ _ _
 have b1 : Below w2.heap.size w2 (w2.alloc (.map #[] 0)) := (kB _ _).alloc (kR _) _
 have b2 : Below w2.heap.size w2 ((w2.alloc (.map #[] 0)).alloc (.cells #[.slice D d.length c, .map (some w2.heap.size), .slice none 0 0] 137)) := b1.alloc (by rw [s1]; omega) _
 have K3 := kW (w2.alloc (.map #[] 0)) 137 #[.slice D d.length c, .map (some w2.heap.size), .slice none 0 0]
 have M3 : SMap prog 9 ((w2.alloc (.map #[] 0)).alloc (.cells #[.slice D d.length c, .map (some w2.heap.size), .slice none 0 0] 137)) w2.heap.size [] := m1.of (kG _ _ _ m1.lt)
 obtain ⟨w3, hw3⟩ := kX ((w2.alloc (.map #[] 0)).alloc (.cells #[.slice D d.length c, .map (some w2.heap.size), .slice none 0 0] 137))
 rw [<- hw3] at b2 K3 M3
 rw [s1] at K3
 have O3 : ObAt w3 (w2.heap.size + 1) w2.heap.size c 0 D none [] ⟨d, [], []⟩ := ⟨K3, (H2.out.1.below b2).weaken (kY _), H2.out.2.2.2.2, M3, .nil, OwnE.nil _ _⟩
 have HW3 := kH hw3
 have HN := kH (x3Z s.bytes HN0.out.1 HN0.out.2.1 w3)
 have H3 := kH (kA O3 b2)
 clear m1 b1 b2 K3 M3 O3 hw3
 go_wp2_with (first | rw [<- HW3.out])
 refine HN.out.mono ?_
 rintro e w4 ⟨rfl, b4⟩
 obtain ⟨mb, hmb⟩ := kX w2.heap.size
 obtain ⟨go, hgo⟩ := kX (w2.heap.size + 1)
 have b24 : Below w2.heap.size w2 w4 := H3.out.2.trans (b4.mono H3.out.2.size)
 have O4 : ObAt w4 go mb c 0 D none [] ⟨d, [], []⟩ := by rw [hgo, hmb]; exact H3.out.1.below b4
 have R4 := H2.out.2.1.below b24
 have S4 : StAt w4 gs ms gp r c1 A M.bl M.fl kvs := ((H0.out.1.st.rd H1.out.2.1 H0.out.2.1.readers).rd H2.out.2.2.1 H1.out.1.readers).below b24
 have N4 : Only (g :: foot gp r M.fl) w w4 := ((H1.out.2.1.mono (fun k hk => by simp [heads] at hk; simp [hk])).trans H2.out.2.2.1 (fun k hk => by simp [heads] at hk; simp [hk])).trans (kO b24 []) (fun k hk => by cases hk)
 have hz1 := H1.out.2.1.size
 have hz2 := H2.out.2.2.1.size
 have hz4 := b24.size
 have hmbl : w.heap.size <= mb := by omega
 have hgol : w.heap.size <= go := by omega
 have hF2 : ∀ k ∈ F2, k ∈ F := fun k hk => H1.out.2.2 k (H2.out.2.2.2.1 k hk)
 have c0 : w4.cell? ⟨w2.heap.size + 1, 0, none⟩ = some (.slice D d.length c) := by rw [<- hgo]; exact O4.blk.cell 0
 have hmbF : mb ∉ F2 := fun hm => by have := HL.out.2.2.2 _ (hF2 _ hm); omega
 have hle2 : s.bytesTo.bytesTo.bs.length <= s.bs.length := kT (RD.bytesTo_le _) (RD.bytesTo_le _)
 have H4 := kH (kA O4 (kA R4 (kA S4 (kA N4 (kA hF2 hle2)))))
 have HG := kH (kA hmbl (kA hgol hmbF))
 have HBS : Hid (base <= w4.heap.size) := kH (by omega)
 rw [<- hgo] at c0 ⊢
 clear O4 R4 S4 N4 hF2 b24 b4 HN HW3 hmbF hle2 hz1 hz2 hz4 H3 hmm hbd
 clear hmb hgo
 have wide : ∀ w', Only (g :: foot gp r M.fl) w w' -> Only (g :: ms :: foot gp r M.fl) w w' := fun w' h => h.mono (fun k hk => by
  rcases kQ hk with e | hk
  ·simp [e]
  ·exact kM _ (kM _ hk))
 have HWD := kH wide
 clear wide
 cases hnm : isNameB s.bytes
 -- {N
 ·have hnone : tkO s M = none := xD5 (fun h => by rw [hnm] at h; cases h.1)
  have HFIN := kH (show TkOTo w Z base g gs ms gp r c1 A M F s (.returned (.bool false)) w4 from ⟨HWD.out _ H4.out.2.2.2.1, .inl ⟨hnone, rfl⟩⟩)
  clear hnone hnm
  go_wp2
  go_ret
  exact HFIN.out
 -- N}
 ·by_cases hlen : d.length <= 65536
  ·have hd1 : decide ((65536 : Int) < (d.length : Int)) = false := decide_eq_false (by omega)
   have HA := kH (xK3 H4.out.1 H4.out.2.1 HBS.out (by have := H4.out.2.2.2.2.2; have := H0.out.2.2.2.1; omega) (by simp) HG.out.2.2)
   have HNM := kH hnm
   clear hnm
   go_wp2_with fail
   refine HA.out.mono ?_
   rintro e w5 ⟨ho5, hcase⟩
   have N5 : Only (g :: foot gp r M.fl) w w5 := H4.out.2.2.2.1.trans ho5 (fun k hk => by
    simp at hk
    rcases hk with e | e
    ·exact .inl (by simp [e])
    ·exact .inr (by rw [e]; exact HG.out.1))
   rcases hcase with ⟨hn, rfl⟩ | ⟨a', s3, kv', F3, hA, rfl, O5, R5, f5, hl5⟩
   -- {A
   ·have hnone : tkO s M = none := xOG hn
    have HFIN := kH (show TkOTo w Z base g gs ms gp r c1 A M F s (.returned (.bool false)) w5 from ⟨HWD.out _ N5, .inl ⟨hnone, rfl⟩⟩)
    clear hnone hn N5 ho5 HA c0
    go_wp2
    go_ret
    exact HFIN.out
   -- A}
   ·have hgg : g < w.heap.size := H0.out.2.1.under g (H0.out.2.1.head g (by simp [heads]))
    have hgR : ∃ cs, Blk w4 g 259 cs := H4.out.2.1.readers g (by simp [heads])
    have S5 : StAt w5 gs ms gp r c1 A M.bl M.fl kvs := H4.out.2.2.1.off ho5 (fun k hk => by
     have h1 := HL.out
     simp at hk
     rcases hk with e | e
     ·subst e
      obtain ⟨cs, hb⟩ := hgR
      refine ⟨fun e => ?_, fun e => ?_, fun hm => ?_⟩
      ·subst e; exact hb.ne_ H4.out.2.2.1.blk (by decide) rfl
      ·subst e; exact H4.out.2.2.1.map.ne_blk hb rfl
      ·exact H4.out.2.2.1.sp.foot_odd (by decide) (by decide) hm _ hb
     ·subst e
      have h2 := HG.out.1
      exact ⟨by omega, by omega, fun hm => by have := h1.2.2.1 _ hm; omega⟩)
    have hF3 : ∀ k ∈ F3, k ∈ F := fun k hk => H4.out.2.2.2.2.1 k (f5 k hk)
    have HE := kH (xL7 (w0 := w) S5 (show ObAt w5 go mb c 0 D none kv' ⟨d, a', []⟩ from O5) R5 hB (by have := H4.out.2.2.2.2.2; have := H0.out.2.2.2.1; omega) hlen N5 HG.out.2.1 HG.out.1 HL.out.1 HL.out.2.1 HL.out.2.2.1 (fun k hk hm => H0.out.2.2.2.2.2 k (hF3 k hk) (kM _ hm)) (fun k hk => HL.out.2.2.2 k (hF3 k hk)))
    have H5 := kH (kA hA (kA hF3 hl5))
    clear S5 O5 R5 f5 hl5 hA hF3 N5 ho5 HA c0 hgR
    go_wp2_with fail
    refine HE.out.mono ?_
    rintro e w6 ⟨N6, hcase⟩
    rcases hcase with ⟨hn, rfl⟩ | ⟨es, fl', s4, ce', E', F4, hE, rfl, S6, hfl6, O6, R6, f6, hl6⟩
    -- {E
    ·have hnone : tkO s M = none := xOM H5.out.1 hn
     have HFIN := kH (show TkOTo w Z base g gs ms gp r c1 A M F s (.returned (.bool false)) w6 from ⟨HWD.out _ N6, .inl ⟨hnone, rfl⟩⟩)
     clear hnone hn N6 HE
     go_wp2
     go_ret
     exact HFIN.out
    -- E}
    ·by_cases hll : lens es = needsB d
     -- {T
     ·have hd2 : decide (lens es = needsB d) = true := decide_eq_true hll
      have hT := xDV (M := M) ⟨HNM.out, by rw [<- HD.out]; exact hlen⟩ H5.out.1 hE (by rw [<- HD.out]; exact hll)
      rw [<- HD.out] at hT
      have hob6 : Rel2 (ObjR w6 Z) kvs M.ob := x6Y H0.out.1.obs N6 (fun k hk => by
       rcases kQ hk with rfl | hk
       ·obtain ⟨cs, hb⟩ := H0.out.2.1.readers k (by simp [heads])
        exact ⟨_, _, hb, by decide, by decide, by decide⟩
       ·obtain ⟨t, cs, hb, rfl | rfl⟩ := H0.out.1.st.sp.foot_typed hk
        ·exact ⟨_, _, hb, by decide, by decide, by decide⟩
        ·exact ⟨_, _, hb, by decide, by decide, by decide⟩)
      have hkl : kvs.length = M.ob.length := H0.out.1.obs.len
      have hnl := HN0.out.2.1
      have hol := H0.out.2.2.2.2.1
      obtain ⟨w7, hrun, hm7, hg7, -⟩ := x2A (P := prog) underlying9 underlying118 S6.map (keyB s.bytes) (by simp [keyB, maxLen]; omega) (by rw [hkl]; simp only [maxLen]; omega) (.pointer (some ⟨go, 0, none⟩))
      rw [x17] at hrun
      have ho7 : Only [ms] w6 w7 := (kU _ _).grown hg7 (fun g hg => .inl (by injection hg with hg; simp [hg]))
      have hodM : ∀ (e : TypeId), ∀ k ∈ [ms], Odd w6 e k := fun e k hk => by simp at hk; subst hk; exact Odd.map S6.map
      have hmsb : ms ≠ mb := by have := HL.out.2.1; have := HG.out.1; omega
      have S7 : StAt w7 gs ms gp r c1 A M.bl fl' (aput (keyB s.bytes) (.pointer (some ⟨go, 0, none⟩)) kvs) := ⟨S6.blk.of (ho7.block _ S6.blk.lt (by simp; have := S6.map.ne_blk S6.blk; omega)), S6.len, hm7, S6.sp.of (ho7.block _ S6.sp.blk.lt (by simp; have := S6.map.ne_blk S6.sp.blk; omega)) (fun t cs hb => ho7.block _ hb.lt (by simp; have := S6.map.ne_blk hb; omega)), S6.ne⟩
      have O7 : ObAt w7 go mb c ce' D E' kv' ⟨d, a', es⟩ := O6.only ho7 (fun k hk _ => ⟨hodM _ k hk, hodM _ k hk, hodM _ k hk⟩) (by simp; omega)
      have hob7 : Rel2 (ObjR w7 Z) kvs M.ob := hob6.imp fun a b hr => ⟨hr.1, by
       obtain ⟨go', mb', c1', ce, D', E, kv1, e, hmb', hat⟩ := hr.2
       exact ⟨go', mb', c1', ce, D', E, kv1, e, hmb', hat.only ho7 (fun k hk _ => ⟨hodM _ k hk, hodM _ k hk, hodM _ k hk⟩) (fun hm => by simp at hm; subst hm; exact hmb' HZ.out.1)⟩⟩
      have hobN := hob7.put ObjR.key (k := keyB s.bytes) (v := .pointer (some ⟨go, 0, none⟩)) (u := ⟨d, a', es⟩) ⟨rfl, go, mb, c, ce', D, E', kv', rfl, fun hm => by have h1 := HZ.out.2 _ hm; have h2 := HG.out.1; omega, O7⟩
      have hF4 : ∀ k ∈ F4, k ∈ F := fun k hk => H5.out.2.1 k (f6 k hk)
      have R7 : Srd w7 base F4 (some ⟨g, 0, none⟩) s4 := R6.of ho7.size (fun k hk => ho7.block k (R6.under k hk) (fun hm => by
       simp at hm
       subst hm
       exact H0.out.2.2.2.2.2 _ (hF4 _ hk) (by simp)))
      have hu1 := RD.bytes_used (s := s) (x95 HNM.out).1
      have hu2 := RD.bytesTo_le s.bytesTo
      have hu3 := H5.out.2.2
      have hgl := x5U (keyB s.bytes) (⟨d, a', es⟩ : Ob) M.ob
      have hfin : TkOTo w Z base g gs ms gp r c1 A M F s (.returned (.bool true)) w7 := ⟨(HWD.out _ N6).trans ho7 (fun k hk => by simp at hk; simp [hk]), .inr ⟨_, s4, _, F4, hT, rfl, ⟨S7, hobN⟩, R7, hF4, hfl6, hgl, by omega⟩⟩
      have HFIN := kH hfin
      have q0 : w6.cell? ⟨gs, 0, none⟩ = some (.map (some ms)) := S6.c0
      clear hfin S7 O7 hob7 hobN hF4 R7 hu1 hu2 hu3 hgl hob6 hkl hnl hol hm7 hg7 ho7 hodM hmsb hT S6 hfl6 O6 R6 f6 hl6 hE N6 HE hll
      go_wp2
      go_ret
      exact HFIN.out
     -- T}
     -- {U
     ·have hd2 : decide (lens es = needsB d) = false := decide_eq_false hll
      have hnone : tkO s M = none := xOH H5.out.1 hE (by rw [<- HD.out]; exact hll)
      have HFIN := kH (show TkOTo w Z base g gs ms gp r c1 A M F s (.returned (.bool false)) w6 from ⟨HWD.out _ N6, .inl ⟨hnone, rfl⟩⟩)
      clear hnone N6 HE S6 hfl6 O6 R6 f6 hl6 hE hll
      go_wp2
      go_ret
      exact HFIN.out
     -- U}
  -- {L
  ·have hd1 : decide ((65536 : Int) < (d.length : Int)) = true := decide_eq_true (by omega)
   have hnone : tkO s M = none := xD5 (fun h => hlen (by rw [HD.out]; exact h.2))
   have HFIN := kH (show TkOTo w Z base g gs ms gp r c1 A M F s (.returned (.bool false)) w4 from ⟨HWD.out _ H4.out.2.2.2.1, .inl ⟨hnone, rfl⟩⟩)
   clear hnone hnm
   go_wp2
   go_ret
   exact HFIN.out
  -- L}
section
open Go.Shelf Go.RowKit Go.Maps Go.Sort Go.Shelf
def Lay.keys77_ren : Go.Shelf.Ren := ⟨fun | 7 => 77 | 10 => 129 | n => n, fun | 23 => 118 | 26 => 9 | 3 => 147 | 28 => 151 | 0 => 0 | 27 => 150 | 33 => 129 | 4 => 4 | n => n, fun | n => n⟩
theorem Lay.keys77 : Go.Proofs.SlLaysZ.n7 prog Lay.keys77_ren := {
 mixed := by kernel_rfl
 f7 := ⟨Tryz.f77.name, by decide, func77.trans (congrArg some (by kernel_rfl))⟩
 f10 := ⟨Tryz.f129.name, by decide, func129.trans (congrArg some (by kernel_rfl))⟩
 t0 := underlying0
 a0 := Tryz.isAgg0
 z0 := Tryz.sizeOf0
 v0 := Tryz.zeroValue0
 t4 := underlying4
 a4 := Tryz.isAgg4
 z4 := Tryz.sizeOf4
 v4 := Tryz.zeroValue4
 t23 := underlying118
 a23 := Tryz.isAgg118
 z23 := Tryz.sizeOf118
 v23 := Tryz.zeroValue118
 t26 := underlying9
 a26 := Tryz.isAgg9
 z26 := Tryz.sizeOf9
 v26 := Tryz.zeroValue9
 t27 := underlying150
 a27 := Tryz.isAgg150
 z27 := Tryz.sizeOf150
 v27 := Tryz.zeroValue150
 t28 := underlying151
 a28 := Tryz.isAgg151
 z28 := Tryz.sizeOf151
 v28 := Tryz.zeroValue151
 t33 := underlying129
 a33 := Tryz.isAgg129
 z33 := Tryz.sizeOf129
 v33 := Tryz.zeroValue129 }
def Lay.sorted76_ren : Go.Shelf.Ren := ⟨fun | 6 => 76 | 8 => 127 | 9 => 128 | 11 => 191 | 13 => 193 | 12 => 192 | 23 => 231 | 24 => 232 | 14 => 222 | 15 => 223 | 16 => 224 | 17 => 225 | 18 => 226 | 19 => 227 | 20 => 228 | 21 => 229 | 22 => 230 | 25 => 259 | 26 => 260 | 27 => 261 | 28 => 262 | 29 => 263 | 30 => 264 | 31 => 283 | n => n, fun | 26 => 9 | 28 => 151 | 24 => 58 | 0 => 0 | 3 => 3 | 37 => 268 | 48 => 303 | 50 => 305 | 4 => 4 | 40 => 296 | 39 => 295 | 45 => 300 | 5 => 5 | 9 => 9 | 51 => 332 | 55 => 336 | 57 => 357 | 58 => 308 | 33 => 129 | n => n, fun | n => n⟩
theorem Lay.sorted76 : Go.Proofs.SlLaysZ.n6 prog Lay.sorted76_ren := {
 mixed := by kernel_rfl
 f6 := ⟨Tryz.f76.name, by decide, func76.trans (congrArg some (by kernel_rfl))⟩
 f8 := ⟨Tryz.f127.name, by decide, func127.trans (congrArg some (by kernel_rfl))⟩
 f11 := ⟨Tryz.f191.name, by decide, func191.trans (congrArg some (by kernel_rfl))⟩
 t0 := underlying0
 a0 := Tryz.isAgg0
 z0 := Tryz.sizeOf0
 v0 := Tryz.zeroValue0
 t24 := underlying58
 a24 := Tryz.isAgg58
 z24 := Tryz.sizeOf58
 v24 := Tryz.zeroValue58
 t26 := underlying9
 a26 := Tryz.isAgg9
 z26 := Tryz.sizeOf9
 v26 := Tryz.zeroValue9
 t28 := underlying151
 a28 := Tryz.isAgg151
 z28 := Tryz.sizeOf151
 v28 := Tryz.zeroValue151
 i26 := by kernel_rfl }
def Lay.sort128_ren : Go.Shelf.Ren := ⟨fun | 6 => 128 | 8 => 193 | 9 => 192 | 19 => 231 | 20 => 232 | 21 => 222 | 22 => 223 | 23 => 224 | 24 => 225 | 25 => 226 | 26 => 227 | 27 => 228 | 28 => 229 | 29 => 230 | 36 => 259 | 31 => 260 | 32 => 261 | 37 => 262 | 38 => 263 | 39 => 264 | 41 => 283 | n => n, fun | 27 => 58 | 29 => 9 | 3 => 3 | 32 => 268 | 26 => 58 | 0 => 0 | 44 => 303 | 46 => 305 | 4 => 4 | 36 => 296 | 35 => 295 | 41 => 300 | 5 => 5 | 9 => 9 | 53 => 332 | 57 => 336 | 63 => 357 | 64 => 308 | n => n, fun | n => n⟩
theorem Lay.sort128 : Go.Proofs.SlLaysM.n6 prog Lay.sort128_ren := {
 mixed := by kernel_rfl
 f6 := ⟨Tryz.f128.name, by decide, func128.trans (congrArg some (by kernel_rfl))⟩
 f8 := func193.trans (congrArg some (by kernel_rfl))
 f9 := ⟨Tryz.f192.name, by decide, func192.trans (congrArg some (by kernel_rfl))⟩
 f19 := func231.trans (congrArg some (by kernel_rfl))
 f20 := func232.trans (congrArg some (by kernel_rfl))
 f21 := ⟨Tryz.f222.name, by decide, func222.trans (congrArg some (by kernel_rfl))⟩
 f22 := ⟨Tryz.f223.name, by decide, func223.trans (congrArg some (by kernel_rfl))⟩
 f23 := ⟨Tryz.f224.name, by decide, func224.trans (congrArg some (by kernel_rfl))⟩
 f24 := ⟨Tryz.f225.name, by decide, func225.trans (congrArg some (by kernel_rfl))⟩
 f25 := ⟨Tryz.f226.name, by decide, func226.trans (congrArg some (by kernel_rfl))⟩
 f26 := ⟨Tryz.f227.name, by decide, func227.trans (congrArg some (by kernel_rfl))⟩
 f27 := ⟨Tryz.f228.name, by decide, func228.trans (congrArg some (by kernel_rfl))⟩
 f28 := ⟨Tryz.f229.name, by decide, func229.trans (congrArg some (by kernel_rfl))⟩
 f29 := ⟨Tryz.f230.name, by decide, func230.trans (congrArg some (by kernel_rfl))⟩
 f31 := func260.trans (congrArg some (by kernel_rfl))
 f32 := func261.trans (congrArg some (by kernel_rfl))
 f36 := ⟨Tryz.f259.name, by decide, func259.trans (congrArg some (by kernel_rfl))⟩
 f37 := ⟨Tryz.f262.name, by decide, func262.trans (congrArg some (by kernel_rfl))⟩
 f38 := ⟨Tryz.f263.name, by decide, func263.trans (congrArg some (by kernel_rfl))⟩
 f39 := ⟨Tryz.f264.name, by decide, func264.trans (congrArg some (by kernel_rfl))⟩
 f41 := ⟨Tryz.f283.name, by decide, func283.trans (congrArg some (by kernel_rfl))⟩
 t0 := underlying0
 a0 := Tryz.isAgg0
 z0 := Tryz.sizeOf0
 v0 := Tryz.zeroValue0
 t3 := underlying3
 a3 := Tryz.isAgg3
 z3 := Tryz.sizeOf3
 v3 := Tryz.zeroValue3
 t4 := underlying4
 a4 := Tryz.isAgg4
 z4 := Tryz.sizeOf4
 v4 := Tryz.zeroValue4
 t5 := underlying5
 a5 := Tryz.isAgg5
 z5 := Tryz.sizeOf5
 v5 := Tryz.zeroValue5
 t9 := underlying9
 a9 := Tryz.isAgg9
 z9 := Tryz.sizeOf9
 v9 := Tryz.zeroValue9
 t26 := underlying58
 a26 := Tryz.isAgg58
 z26 := Tryz.sizeOf58
 v26 := Tryz.zeroValue58
 t27 := underlying58
 a27 := Tryz.isAgg58
 z27 := Tryz.sizeOf58
 v27 := Tryz.zeroValue58
 t29 := underlying9
 a29 := Tryz.isAgg9
 z29 := Tryz.sizeOf9
 v29 := Tryz.zeroValue9
 t32 := underlying268
 a32 := Tryz.isAgg268
 z32 := Tryz.sizeOf268
 v32 := Tryz.zeroValue268
 t35 := underlying295
 a35 := Tryz.isAgg295
 z35 := Tryz.sizeOf295
 v35 := Tryz.zeroValue295
 t36 := underlying296
 a36 := Tryz.isAgg296
 z36 := Tryz.sizeOf296
 v36 := Tryz.zeroValue296
 t41 := underlying300
 a41 := Tryz.isAgg300
 z41 := Tryz.sizeOf300
 v41 := Tryz.zeroValue300
 t44 := underlying303
 a44 := Tryz.isAgg303
 z44 := Tryz.sizeOf303
 v44 := Tryz.zeroValue303
 t46 := underlying305
 a46 := Tryz.isAgg305
 z46 := Tryz.sizeOf305
 v46 := Tryz.zeroValue305
 t53 := underlying332
 a53 := Tryz.isAgg332
 z53 := Tryz.sizeOf332
 v53 := Tryz.zeroValue332
 t57 := underlying336
 a57 := Tryz.isAgg336
 z57 := Tryz.sizeOf336
 v57 := Tryz.zeroValue336
 t63 := underlying357
 a63 := Tryz.isAgg357
 z63 := Tryz.sizeOf357
 v63 := Tryz.zeroValue357
 t64 := underlying308
 a64 := Tryz.isAgg308
 z64 := Tryz.sizeOf308
 v64 := Tryz.zeroValue308 }
theorem Lay.sorts76 (m : Nat) : AnyZ.SortsIn prog Lay.sorted76_ren Fence.wide m :=
  ⟨fun blk off cap ss W hH hblk hsz => callsIn_wide.2 (AnyM.slices_Sort_string Lay.sort128 blk off cap ss W hH hblk hsz),
   fun p cap W => callsIn_wide.2 (AnyM.slices_Sort_string_none Lay.sort128 p cap W)⟩
theorem Lay.maps_Keys_77 (mb : Option Nat) (W : World) : CallsIn Fence.wide 5 prog 77 #[.map mb] W fun e w' => e = .returned (.func (.func 129) #[] #[.pointer (some ⟨W.heap.size, 0, none⟩)]) /\ w' = W.alloc (.cells #[.map mb] 118) :=
  AnyZ.keys_in Lay.keys77 Fence.wide 5 trivial rfl mb W
theorem Lay.slices_Sorted_keys_76_77 {H : Type} (b nn : Nat) (D0 : DataW H) (R : Value -> Option (DataW H × List MemPlace)) (w : World) (hown : w.ownsMap prog 9 R b nn D0) (hmax : Maps.size D0 <= maxLen) (hbytes : Maps.size D0 * 16 <= 140737488355328) :
  CallsIn Fence.wide 5 prog 76 #[.func (.func 129) #[] #[.pointer (some ⟨w.heap.size, 0, none⟩)]] (w.alloc (.cells #[.map (some b)] 118)) fun e w' => ∃ (v : Value) (ss : List (List UInt8)), e = .returned v /\ ss.Perm (strKeys D0) ∧
   w'.ownsRow (w.alloc (.cells #[.map (some b)] 118)).heap.size 9 1 v ss.length ((ss.mergeSort (fun x y => decide (x <= y))).map encStr) /\ (v = .slice none 0 0 ↔ ss = []) /\ Below (w.alloc (.cells #[.map (some b)] 118)).heap.size (w.alloc (.cells #[.map (some b)] 118)) w' := by
 have hbl := hown.lt
 have hseq : SeqGives Fence.wide 2 prog 129 #[.pointer (some ⟨w.heap.size, 0, none⟩)] encStr (fun ss => ss.Perm (strKeys D0)) (Maps.size D0) (w.alloc (.cells #[.map (some b)] 118)) :=
  AnyZ.keys_gives (ρ := Lay.keys77_ren) { Lay.keys77 with } Fence.wide _ trivial rfl (by omega) w.heap.size b nn D0 _ (by simp) (by simp) (by
   obtain ⟨es, clock, hb, Ft, hs, hD⟩ := hown
   exact ⟨es, clock, (kG _ _ b hbl).trans hb, Ft, hs, hD⟩)
 exact AnyZ.sorted_in Lay.sorted76 Fence.wide 5 trivial trivial trivial trivial rfl (by omega) (Lay.sorts76 _) (enters_of func128 (by kernel_rfl) rfl) 129 #[.pointer (some ⟨w.heap.size, 0, none⟩)] trivial (enters_of func129 (by kernel_rfl) rfl) _ _ hmax hbytes _ hseq
def Lay.keys154_ren : Go.Shelf.Ren := ⟨fun | 7 => 154 | 10 => 208 | n => n, fun | 23 => 134 | 26 => 9 | 3 => 35 | 28 => 151 | 0 => 0 | 27 => 150 | 33 => 129 | 4 => 4 | n => n, fun | n => n⟩
theorem Lay.keys154 : Go.Proofs.SlLaysZ.n7 prog Lay.keys154_ren := {
 mixed := by kernel_rfl
 f7 := ⟨Tryz.f154.name, by decide, func154.trans (congrArg some (by kernel_rfl))⟩
 f10 := ⟨Tryz.f208.name, by decide, func208.trans (congrArg some (by kernel_rfl))⟩
 t0 := underlying0
 a0 := Tryz.isAgg0
 z0 := Tryz.sizeOf0
 v0 := Tryz.zeroValue0
 t4 := underlying4
 a4 := Tryz.isAgg4
 z4 := Tryz.sizeOf4
 v4 := Tryz.zeroValue4
 t23 := underlying134
 a23 := Tryz.isAgg134
 z23 := Tryz.sizeOf134
 v23 := Tryz.zeroValue134
 t26 := underlying9
 a26 := Tryz.isAgg9
 z26 := Tryz.sizeOf9
 v26 := Tryz.zeroValue9
 t27 := underlying150
 a27 := Tryz.isAgg150
 z27 := Tryz.sizeOf150
 v27 := Tryz.zeroValue150
 t28 := underlying151
 a28 := Tryz.isAgg151
 z28 := Tryz.sizeOf151
 v28 := Tryz.zeroValue151
 t33 := underlying129
 a33 := Tryz.isAgg129
 z33 := Tryz.sizeOf129
 v33 := Tryz.zeroValue129 }
theorem Lay.maps_Keys_154 (mb : Option Nat) (W : World) : CallsIn Fence.wide 5 prog 154 #[.map mb] W fun e w' => e = .returned (.func (.func 208) #[] #[.pointer (some ⟨W.heap.size, 0, none⟩)]) /\ w' = W.alloc (.cells #[.map mb] 134) :=
  AnyZ.keys_in Lay.keys154 Fence.wide 5 trivial rfl mb W
theorem Lay.slices_Sorted_keys_76_154 {H : Type} (b nn : Nat) (D0 : DataW H) (R : Value -> Option (DataW H × List MemPlace)) (w : World) (hown : w.ownsMap prog 9 R b nn D0) (hmax : Maps.size D0 <= maxLen) (hbytes : Maps.size D0 * 16 <= 140737488355328) :
  CallsIn Fence.wide 5 prog 76 #[.func (.func 208) #[] #[.pointer (some ⟨w.heap.size, 0, none⟩)]] (w.alloc (.cells #[.map (some b)] 134)) fun e w' => ∃ (v : Value) (ss : List (List UInt8)), e = .returned v /\ ss.Perm (strKeys D0) ∧
   w'.ownsRow (w.alloc (.cells #[.map (some b)] 134)).heap.size 9 1 v ss.length ((ss.mergeSort (fun x y => decide (x <= y))).map encStr) /\ (v = .slice none 0 0 ↔ ss = []) /\ Below (w.alloc (.cells #[.map (some b)] 134)).heap.size (w.alloc (.cells #[.map (some b)] 134)) w' := by
 have hbl := hown.lt
 have hseq : SeqGives Fence.wide 2 prog 208 #[.pointer (some ⟨w.heap.size, 0, none⟩)] encStr (fun ss => ss.Perm (strKeys D0)) (Maps.size D0) (w.alloc (.cells #[.map (some b)] 134)) :=
  AnyZ.keys_gives (ρ := Lay.keys154_ren) { Lay.keys154 with } Fence.wide _ trivial rfl (by omega) w.heap.size b nn D0 _ (by simp) (by simp) (by
   obtain ⟨es, clock, hb, Ft, hs, hD⟩ := hown
   exact ⟨es, clock, (kG _ _ b hbl).trans hb, Ft, hs, hD⟩)
 exact AnyZ.sorted_in Lay.sorted76 Fence.wide 5 trivial trivial trivial trivial rfl (by omega) (Lay.sorts76 _) (enters_of func128 (by kernel_rfl) rfl) 208 #[.pointer (some ⟨w.heap.size, 0, none⟩)] trivial (enters_of func208 (by kernel_rfl) rfl) _ _ hmax hbytes _ hseq
end
section
open Go.RowKit Go.BigFrame Go.Shelf Go.Sort Go.Maps
def noS : ByteArray := strOf []
theorem xLY : noS.size = 0 := rfl
theorem xJ2 : noS.toList.isEmpty = true := by
 have : noS = ByteArray.empty := rfl
 rw [this]
 decide +kernel
theorem xHB (s : ByteArray) (w : World) : Calls prog 131 #[.string s, .string noS] w fun e w' => e = .returned (.bool true) /\ w = w' := by
 have h0 := xLY
 have h1 := xJ2
 have hd : decide ((0 : Int) <= (s.size : Int)) = true := decide_eq_true (by omega)
 go_enter func131, ntmps131
 go_wp2
 go_ret
 exact ⟨rfl, rfl⟩
theorem xCI (s : ByteArray) (w : World) : Calls prog 80 #[.string s, .string noS] w fun e w' => e = .returned (.bool true) /\ w = w' := by
 have hp := xHB s
 have HP := kH hp
 clear hp
 go_enter func80, ntmps80
 go_wp2_with fail
 refine (HP.out w).mono ?_
 rintro e w' ⟨rfl, rfl⟩
 go_wp2
 go_ret
 exact ⟨rfl, rfl⟩
def preV (g : Nat) : Value := .func (.func 79) #[] #[.pointer (some ⟨g, 0, none⟩)]
theorem xPV (s : ByteArray) (hg : w.cell? ⟨g, 0, none⟩ = some (.string noS)) : Calls prog 79 #[.string s, .pointer (some ⟨g, 0, none⟩)] w fun e w' => e = .returned (.bool false) /\ w = w' := by
 have HP := kH (xCI s)
 go_enter func79, ntmps79
 go_wp2_with fail
 refine (HP.out w).mono ?_
 rintro e w' ⟨rfl, rfl⟩
 go_wp2
 go_ret
 exact ⟨rfl, rfl⟩
def NamR (w : World) (base : Nat) (v : Value) (ns : List Key) : Prop := w.ownsRow base 9 1 v ns.length (ns.map keyV)
theorem NamR.reads {ns : List Key} (h : NamR w base (.slice A ns.length c) ns) : Reads w w.heap.size 1 A ns.length (ns.map keyV) := kV h
theorem NamR.form {v : Value} {ns : List Key} (h : NamR w base v ns) : ∃ A c, v = .slice A ns.length c /\ ns.length <= c /\ ∀ k ∈ rowOf v, base <= k := by
 rcases h.2 with ⟨e, h0⟩ | ⟨g, c, cur, e, hb, _, hx, _⟩
 ·exact ⟨none, 0, by rw [e, h0], by omega, fun k hk => by rw [e] at hk; simp [rowOf, Value.ownBlock] at hk⟩
 ·exact ⟨_, c, e, hx, fun k hk => by rw [e] at hk; simp [rowOf, Value.ownBlock] at hk; omega⟩
theorem NamR.below {v : Value} {ns : List Key} (h : NamR w base v ns) (hb : Below w.heap.size w w') : NamR w' base v ns := x06 h fun k hk => hb.block k (x02 h k hk)
theorem xK5 {ns : List Key} (h : Reads w B 1 A ns.length (ns.map keyV)) (hl : ns.length <= 1000000) (hg : w.cell? ⟨g, 0, none⟩ = some (.string noS)) :
  Calls prog 130 #[.slice A ns.length c, preV g] w fun e w' => e = .returned (.int .i64 (-1)) /\ w = w' := by
 have HR := kH h
 have HG := kH hg
 clear h hg
 unfold preV
 go_enter func130, ntmps130
 go_wp2
 go_loopw [8] (fun i wr => ∃ k : Nat, k <= ns.length /\ i = .int .i64 k /\ wr = w) (fun i _ => ns.length - (intS i).toNat)
 case atStart => exact ⟨0, by omega, rfl, rfl⟩
 case round =>
  obtain ⟨k, hk, rfl, rfl⟩ := hrel
  by_cases hlt : k < ns.length
  ·obtain ⟨ad, u, rfl, hab, hu, hc⟩ := HR.out.at_ hlt
   obtain ⟨s, rfl⟩ : ∃ s, u = .string s := by
    simp only [List.getElem?_map] at hu
    cases hx : ns[k]? with
    | none => rw [hx] at hu; cases hu
    | some x => rw [hx] at hu; simp at hu; exact ⟨_, hu.symm⟩
   have HP := kH (xPV s HG.out)
   have hwk := wK k (by omega)
   clear hu
   go_wp2_with fail
   refine HP.out.mono ?_
   rintro e w' ⟨rfl, rfl⟩
   go_wp2
   go_roundw
   case rel => exact ⟨k + 1, by omega, by go_num, trivial⟩
   case measure => simp [intS]; omega
  ·obtain rfl : k = ns.length := by omega
   go_wp2
   go_ret
   exact ⟨rfl, rfl⟩
theorem xIF {ns : List Key} (h : Reads w B 1 A ns.length (ns.map keyV)) (hl : ns.length <= 1000000) (hg : w.cell? ⟨g, 0, none⟩ = some (.string noS)) :
  Calls prog 78 #[.slice A ns.length c, preV g] w fun e w' => e = .returned (.slice A ns.length c) /\ w = w' := by
 have HI := kH (xK5 (c := c) h hl hg)
 clear h hg
 unfold preV at HI ⊢
 go_enter func78, ntmps78
 go_wp2_with fail
 refine HI.out.mono ?_
 rintro e w' ⟨rfl, rfl⟩
 go_wp2
 go_ret
 exact ⟨rfl, rfl⟩
theorem x8S (l : KV) : strKeys (.map (l.map encKV)) = l.map (·.1) := by
 simp only [strKeys, map_map]
 congr 1
theorem x3B (l : KV) : Maps.size (DataW.map (l.map encKV)) = l.length := by
  simp [Maps.size]
theorem xFQ (w : World) (h : SMap prog 9 w b l) (hl : l.length <= 1000000) :
  Calls prog 76 #[.func (.func 129) #[] #[.pointer (some ⟨w.heap.size, 0, none⟩)]] (w.alloc (.cells #[.map (some b)] 118)) fun e w' => ∃ v ns, e = .returned v /\ ns.Perm (l.map (·.1)) /\ ns.Pairwise (fun x y => leB x y = true) /\ NamR w' w.heap.size v ns /\ Below w.heap.size w w' := by
 refine (callsIn_wide.1 (Lay.slices_Sorted_keys_76_77 b l.length (.map (l.map encKV)) heldR w h.owns (by rw [x3B]; simp only [maxLen]; omega) (by rw [x3B]; omega))).mono ?_
 rintro e w' ⟨v, ss, rfl, hS, hrow, hnil, hb⟩
 have ha : Below w.heap.size w (w.alloc (.cells #[.map (some b)] 118)) := (kB _ _).alloc (kR _) _
 refine ⟨v, ss.mergeSort leB, rfl, ?_, ?_, ?_, ha.trans (hb.mono (by simp))⟩
 ·rw [x8S] at hS
  exact (mergeSort_perm _ _).trans hS
 ·exact pairwise_mergeSort (fun a b c h1 h2 => by simp only [leB, decide_eq_true_eq] at *; exact le_trans h1 h2) (fun a b => by simp only [leB, Bool.or_eq_true, decide_eq_true_eq]; exact le_total a b) _
 ·refine x0B ?_ (show w.heap.size <= (w.alloc (.cells #[.map (some b)] 118)).heap.size by simp)
  rw [length_mergeSort]
  exact hrow
theorem xK7 (mb : Option Nat) (w : World) : Calls prog 77 #[.map mb] w fun e w' => e = .returned (.func (.func 129) #[] #[.pointer (some ⟨w.heap.size, 0, none⟩)]) /\ w' = w.alloc (.cells #[.map mb] 118) :=
  callsIn_wide.1 (Lay.maps_Keys_77 mb w)
theorem xL4 (h : StAt w gs ms gp r c A bl fl kv) (hl : kv.length <= 1000000) :
  Calls prog 30 #[.pointer (some ⟨gs, 0, none⟩), .string noS] w fun e w' => ∃ v ns, e = .returned v /\ ns.Perm (kv.map (·.1)) /\ ns.Pairwise (fun x y => leB x y = true) /\ NamR w' w.heap.size v ns /\ Below w.heap.size w w' := by
 have hb1 : Below w.heap.size w (w.alloc (.cells #[.string noS] 9)) := (kB _ _).alloc (kR _) _
 have h1 := h.below hb1
 have c0 := h1.c0
 have q0 : (w.alloc (.cells #[.string noS] 9)).cell? ⟨w.heap.size, 0, none⟩ = some (.string noS) := (kW w 9 #[.string noS]).cell 0
 obtain ⟨w1, hw1⟩ := kX (w.alloc (.cells #[.string noS] 9))
 rw [<- hw1] at hb1 h1 c0 q0
 have HW1 := kH hw1
 have HB1 := kH (kA hb1 q0)
 have HK := kH (xK7 (some ms) w1)
 have HS := kH (xFQ w1 h1.map hl)
 have hwl : w.heap.size < w1.heap.size := by rw [hw1]; simp
 clear hw1 hb1 h1 h q0
 go_enter func30, ntmps30
 go_wp2_with (first | rw [<- HW1.out])
 refine HK.out.mono ?_
 rintro e w2 ⟨rfl, rfl⟩
 go_wp2_with fail
 refine HS.out.mono ?_
 rintro e w3 ⟨v, ns, rfl, hp, hs, hrow, hb⟩
 obtain ⟨A3, c3, rfl, hc3, hov⟩ := hrow.form
 have q3 : w3.cell? ⟨w.heap.size, 0, none⟩ = some (.string noS) := (hb.cell (p := ⟨w.heap.size, 0, none⟩) hwl).trans HB1.out.2
 have hnl : ns.length <= 1000000 := by rw [hp.length_eq, length_map]; exact hl
 have HD := kH (xIF (c := c3) hrow.reads hnl q3)
 have HX := kH (kA hp (kA hs (kA hrow hb)))
 clear hp hs hrow hb hov q3
 unfold preV at HD
 go_wp2_with fail
 refine HD.out.mono ?_
 rintro e w4 ⟨rfl, rfl⟩
 go_wp2
 go_ret
 obtain ⟨hp, hs, hrow, hb⟩ := HX.out
 exact ⟨_, ns, rfl, hp, hs, x0B hrow (by omega), HB1.out.1.trans (hb.mono (by omega))⟩
end
structure SRaw (w : World) (s : SV) : Prop where
 dat : Bytes w w.heap.size s.D s.x.dt.length s.x.dt
 nm : Small s.x.nm
 at1 : -9223372036854775808 <= s.x.at_
 at2 : s.x.at_ <= 9223372036854775807
 ln1 : -9223372036854775808 <= s.x.ln
 ln2 : s.x.ln <= 9223372036854775807
 nl : s.x.nm.length <= 9223372036854775807
 dl : s.x.dt.length <= 9223372036854775807
theorem SRaw.since (h : SRaw w s) (hb : Below w.heap.size w w') : SRaw w' s := ⟨(h.dat.since hb).more hb.size, h.nm, h.at1, h.at2, h.ln1, h.ln2, h.nl, h.dl⟩
structure StepsW (w : World) (A : OA) (l : List SV) : Prop where
 row : Reads w w.heap.size 5 A l.length (l.flatMap SV.cs)
 els : ∀ s ∈ l, SRaw w s
theorem StepsW.since {l : List SV} (h : StepsW w A l) (hb : Below w.heap.size w w') : StepsW w' A l := ⟨(h.row.since hb).more hb.size, fun s hs => (h.els s hs).since hb⟩
def StepB (s : SV) : Prop := s.x.dt.length <= 2000 /\ s.x.nm.length <= 100
theorem StepsW.tame {l : List SV} (h : StepsW w A l) (hb : ∀ s ∈ l, StepB s) : StepsR w w.heap.size A l := ⟨h.row, fun s hs => by
 have h1 := h.els s hs
 have h2 := hb s hs
 exact ⟨h1.dat, h1.nm, h1.at1, h1.at2, h1.ln1, h1.ln2, by have := h2.2; omega, by have := h2.1; omega⟩⟩
theorem flat5 {l : List SV} (h : Reads w w.heap.size 5 A l.length (l.flatMap SV.cs)) (hk : l[k]? = some s) : ∃ ad, A = some ad /\ ad.block < w.heap.size /\ ∀ j v, s.cs[j]? = some v -> w.cell? ((ad.add (k * 5)).add j) = some v := by
 have hl := (List.getElem?_eq_some_iff.1 hk).1
 obtain ⟨ad, e, hb, hc⟩ := h.2 (by omega)
 refine ⟨ad, e, hb, fun j v hj => ?_⟩
 rw [x1Q]
 have hj5 : j < 5 := by have := (List.getElem?_eq_some_iff.1 hj).1; rwa [SV.cs_len] at this
 exact hc _ v (by rw [x1K SV.cs 5 SV.cs_len l k j s hk hj5]; exact hj)
def M0 (n : Nat) : Mod := ⟨flags8, List.replicate n true, []⟩
theorem inv0 (h : n <= 65536) : Inv 0 (M0 n) where
 keys := nodup_nil
 few := kR _
 len := by simpa [M0] using h
 bl := rfl
 good := ⟨fun e he => (by cases he), List.Pairwise.nil, fun e he => (by cases he), fun j hj => ⟨fun hc => absurd hc Cov.nil, fun hf => by
  simp [M0] at hj
  simp [M0, hj] at hf⟩⟩
 obs := fun p hp => by cases hp
 nms := fun p hp => by cases hp
theorem x22 {fl' : List Bool} (h : fl'.length = fl.length) : foot gp r fl' = foot gp r fl := by
 unfold foot
 by_cases hf : fl = []
 ·have : fl' = [] := eq_nil_of_length_eq_zero (by rw [h, hf]; rfl)
  rw [if_pos hf, if_pos this]
 ·have : fl' ≠ [] := fun e => hf (eq_nil_of_length_eq_zero (by rw [<- h, e]; rfl))
  rw [if_neg hf, if_neg this]
theorem xAV (hd : Bytes w B s.D s.x.dt.length s.x.dt) (h1 : s.x.nm = []) (h2 : s.x.at_ = 0) (h3 : 0 <= s.x.ln /\ s.x.ln <= 65536) (h4 : s.x.dt.length <= 1000000) : StepIn w s.x B s.D :=
  ⟨hd, (by rw [h1]; intro b hb; cases hb), by omega, by omega, by omega, by omega, (by rw [h1]; simp), h4⟩
def keyL (k : Key) : LN := k.map UInt8.toNat
theorem x5T (k : Key) : keyB (keyL k) = k := by
 unfold keyB keyL
 rw [map_map]
 conv => rhs; rw [<- map_id k]
 apply map_congr_left
 intro b _
 simp
theorem xMD (k : Key) : keyV k = .string (strOf (keyL k)) := by
  rw [<- x17, x5T]
theorem x98 (k : Key) : (keyL k).length = k.length := by simp [keyL]
theorem x9C (nm : LN) : (keyB nm).length = nm.length := by simp [keyB]
theorem x7R {α β : Type} (f : α -> List β) {l : List α} {q : Nat} {k : α} (hk : l[q]? = some k) : (l.take (q + 1)).flatMap f = (l.take q).flatMap f ++ f k /\ ∃ post, l.flatMap f = (l.take q).flatMap f ++ f k ++ post := by
 constructor
 ·rw [take_add_one, hk]
  simp
 ·refine ⟨(l.drop (q + 1)).flatMap f, ?_⟩
  have hlt := (List.getElem?_eq_some_iff.1 hk).1
  conv => lhs; rw [<- take_append_drop q l]
  rw [drop_eq_getElem_cons hlt]
  have : l[q] = k := (List.getElem?_eq_some_iff.1 hk).2
  rw [this]
  simp
theorem x3P (w : World) (p : Addr) (cs : List Value) (hl : cs.length = 8) (hc : ∀ j v, cs[j]? = some v -> w.cell? (p.add j) = some v) : (loadVar 119 p).run prog w = .ok (.agg cs.toArray) w := by
 have hl : (loadCells p 8).run prog w = .ok cs.toArray w := by have := run_loadCells_list (P := prog) w p cs hc; rwa [hl] at this
 have hagg : (isAgg 119).run prog w = .ok true w := by
  unfold isAgg
  rw [Sem.run_bind, run_underlying underlying119 w]
  rfl
 have hi : (prog.info? 119).map (·.size) = some 8 := by kernel_rfl
 cases hq : prog.info? 119 with
 | none => simp [hq] at hi
 | some i =>
  have hs : i.size = 8 := by simpa [hq] using hi
  simp [loadVar, Sem.run_bind, hagg, sizeOf, typeInfo, hq, hs, hl]
theorem xA5 {o : Oper} {x : Operand} (hl : bl.length = 8) (ho : o.op = .load 119 x) (hx : a.eval x = .pointer (some ⟨gs, 1, none⟩)) (h : Blk w gs 122 (stC ms bl gp)) : (execOp a.eval o).run prog w = .ok (.value (.agg (bl.map Value.bool).toArray)) w := by
 have hr := x3P w ⟨gs, 1, none⟩ (bl.map Value.bool) (by simpa using hl) (fun j v hj => by
  have : (⟨gs, 1, none⟩ : Addr).add j = ⟨gs, 1 + j, none⟩ := by simp [Addr.add]
  rw [this, h.cell]
  have hj8 := (List.getElem?_eq_some_iff.1 hj).1
  simp only [stC, List.getElem?_toArray]
  rw [Nat.add_comm, List.getElem?_cons_succ, List.getElem?_append_left hj8]
  exact hj)
 unfold execOp
 simp only [ho, hx, Instr.loadAt, Instr.sureAddr, Sem.run_bind, Sem.run_pure, kS, hr]
def StCopyTo (w : World) (bl fl : List Bool) (kv : KV) (e : Ending) (w' : World) : Prop := ∃ gs ms gp r c A, e = .returned (.pointer (some ⟨gs, 0, none⟩)) /\ StAt w' gs ms gp r c A bl fl kv /\ w.heap.size <= gs /\ w.heap.size <= ms /\ w.heap.size <= gp /\ w.heap.size <= r /\ Below w.heap.size w w'
theorem xGT (h : StAt w gs ms gp r c A bl fl kv) :
  Calls prog 55 #[.pointer (some ⟨gs, 0, none⟩)] w (StCopyTo w bl fl kv) := by
 obtain ⟨b0, b1, b2, b3, b4, b5, b6, b7, rfl⟩ : ∃ b0 b1 b2 b3 b4 b5 b6 b7, bl = [b0, b1, b2, b3, b4, b5, b6, b7] := by
  have hl := h.len
  match bl, hl with
  | [b0, b1, b2, b3, b4, b5, b6, b7], _ => exact ⟨b0, b1, b2, b3, b4, b5, b6, b7, rfl⟩
 have HH := kH h
 have HC : Hid (∀ w', Blk w' gs 122 (stC ms [b0, b1, b2, b3, b4, b5, b6, b7] gp) -> w'.cell? ⟨gs, 0, none⟩ = some (.map (some ms)) /\ w'.cell? ⟨gs, 9, none⟩ = some (.pointer (some ⟨gp, 0, none⟩))) := kH fun w' hb => by
  have hl := h.len
  constructor
  ·rw [hb.cell]; simp [stC]
  ·rw [hb.cell]
   simp only [stC, List.getElem?_toArray]
   rw [List.getElem?_cons_succ, List.getElem?_append_right (by simp [hl])]
   simp [hl]
 clear h
 go_enter func55, ntmps55
 go_upto_region 3 with (fail)
 have hS : Blk w.drew gs 122 (stC ms [b0, b1, b2, b3, b4, b5, b6, b7] gp) := HH.out.blk.drew
 refine x09 (fun w' => Blk w' gs 122 (stC ms [b0, b1, b2, b3, b4, b5, b6, b7] gp)) 16 (by kernel_rfl) ?_
 refine tU 0 (.pointer (some ⟨gs, 0, none⟩)) rfl (fun w hw => by kernel_rfl) hS ?_
 refine tU 1 (.pointer (some ⟨gs, 0, none⟩)) rfl (fun w hw => by kernel_rfl) hS ?_
 refine tU 2 (.pointer (some ⟨gs, 0, none⟩)) rfl (fun w hw => by go_simp) hS ?_
 refine tU 3 (.map (some ms)) rfl (fun w hw => by have q := (HC.out w hw).1; go_simp) hS ?_
 refine tU 5 (.pointer (some ⟨gs, 0, none⟩)) rfl (fun w hw => by kernel_rfl) hS ?_
 refine tU 6 (.pointer (some ⟨gs, 0, none⟩)) rfl (fun w hw => by kernel_rfl) hS ?_
 refine tU 7 (.pointer (some ⟨gs, 1, none⟩)) rfl (fun w hw => by go_simp) hS ?_
 refine tU 8 (.agg ([b0, b1, b2, b3, b4, b5, b6, b7].map Value.bool).toArray) rfl (fun w hw => by exact xA5 HH.out.len rfl rfl hw) hS ?_
 refine tU 9 (.pointer (some ⟨gs, 0, none⟩)) rfl (fun w hw => by kernel_rfl) hS ?_
 refine tU 10 (.pointer (some ⟨gs, 0, none⟩)) rfl (fun w hw => by kernel_rfl) hS ?_
 refine tU 11 (.pointer (some ⟨gs, 9, none⟩)) rfl (fun w hw => by go_simp) hS ?_
 refine tU 12 (.pointer (some ⟨gp, 0, none⟩)) rfl (fun w hw => by have q := (HC.out w hw).2; go_simp) hS ?_
 refine tO 4 ?_
 have hb0 : Below w.heap.size w w.drew := x08 (kB _ _) 1
 have h0 := HH.out.below hb0
 refine x03 (by kernel_rfl) (xFM h0.map) ?_
 rintro e w1 ⟨rfl, hm1, hb1⟩
 have h1 := h0.below hb1
 refine ⟨_, rfl, h1.blk, ?_⟩
 simp only [nH, pu, nB, nC, nD]
 refine tO 13 ?_
 refine x03 (by kernel_rfl) (xK9 h1.sp) ?_
 rintro e w2 ⟨p, rfl, g2, r2, A2, c2, rfl, hs2, hne2, hg2, hr2, hb2⟩
 have h2 := h1.below hb2
 refine ⟨_, rfl, h2.blk, ?_⟩
 simp only [nH, pu, nB, nC, nD]
 refine tO 14 ?_
 refine x0A (v := .agg (stC w.drew.heap.size [b0, b1, b2, b3, b4, b5, b6, b7] g2)) (w' := w2) (by kernel_rfl) ⟨h2.blk, ?_⟩
 simp only [nH, pu, nB, nC, nD]
 refine tO 15 ?_
 have hz0 : w.drew.heap.size = w.heap.size := rfl
 have hz1 := hb1.size
 have hz2 := hb2.size
 have hb3 : Below w2.heap.size w2 (w2.alloc (.cells (stC w.drew.heap.size [b0, b1, b2, b3, b4, b5, b6, b7] g2) 122)) := (kB _ _).alloc (kR _) _
 have K3 := kW w2 122 (stC w.drew.heap.size [b0, b1, b2, b3, b4, b5, b6, b7] g2)
 refine x0A (v := .pointer (some ⟨w2.heap.size, 0, none⟩)) (w' := w2.alloc (.cells (stC w.drew.heap.size [b0, b1, b2, b3, b4, b5, b6, b7] g2) 122)) (by kernel_rfl) ⟨(h2.below hb3).blk, ?_⟩
 simp only [nH, pu, nB, nC, nD]
 have hfin : StCopyTo w [b0, b1, b2, b3, b4, b5, b6, b7] fl kv (.returned (.pointer (some ⟨w2.heap.size, 0, none⟩))) (w2.alloc (.cells (stC w.drew.heap.size [b0, b1, b2, b3, b4, b5, b6, b7] g2) 122)) := by
  have hm3 := (hm1.of (hb2.block _ hm1.lt)).of (hb3.block _ (hm1.of (hb2.block _ hm1.lt)).lt)
  have hsp := hs2.of (hb3.block _ hs2.blk.lt) (fun _ _ hx => hb3.block _ hx.lt)
  have hb01 : Below w.heap.size w w1 := x0L (w := w) (hb1.mono (by omega))
  exact ⟨_, w.drew.heap.size, g2, r2, c2, A2, rfl, ⟨K3, HH.out.len, hm3, hsp, hne2⟩, by omega, by omega, by omega, by omega, (hb01.trans (hb2.mono (by omega))).trans (hb3.mono (by omega))⟩
 have HFIN := kH hfin
 clear hfin hb3 K3 h2 hb2 hs2 hne2 hg2 hr2 h1 hb1 hm1 h0 hb0 HH HC hS
 refine tZ ?_
 refine x0A (v := .pointer (some ⟨w2.heap.size, 0, none⟩)) (w' := w2.alloc (.cells (stC w.drew.heap.size [b0, b1, b2, b3, b4, b5, b6, b7] g2) 122)) (by kernel_rfl) ?_
 refine NoPanic.normal ?_
 simp only [nH, pu, nB, nC, nD]
 generalize w2.alloc (.cells (stC w.drew.heap.size [b0, b1, b2, b3, b4, b5, b6, b7] g2) 122) = w3 at HFIN ⊢
 generalize w2.heap.size = g3 at HFIN ⊢
 go_wp2
 go_ret
 exact HFIN.out
section
open Go.RowKit Go.BigFrame Go.Shelf Go.Sort Go.Maps Go.WideElems
theorem SMap.key_len {P : Program} {kt : TypeId} (hk : P.underlying kt = some .string) (h : SMap P kt w b l) {p : Key × Value} (hp : p ∈ l) : p.1.length <= maxLen := by
 obtain ⟨es, c, h1, h2, h3⟩ := h
 have hm : encKV p ∈ l.map encKV := List.mem_map.2 ⟨p, hp, rfl⟩
 rw [<- h3] at hm
 obtain ⟨x, hx, e⟩ := List.mem_map.1 ((WideShapes.sorted_perm _).mem_iff.1 hm)
 obtain ⟨y, hy⟩ := h2.reads x hx
 have hr : rg P kt heldR x = y := rg_of hy
 have hy1 := rd_key hy
 rw [<- hr, e] at hy1
 simp only [keyOf, mapKey, hk, encKV] at hy1
 split at hy1
 all_goals first | (simp at hy1; done) | skip
 all_goals
  simp at hy1
  obtain ⟨h4, h5⟩ := hy1
  rw [<- h5]
  first | exact h4 | simpa using h4
theorem xHJ (mb : Option Nat) (w : World) : Calls prog 154 #[.map mb] w fun e w' => e = .returned (.func (.func 208) #[] #[.pointer (some ⟨w.heap.size, 0, none⟩)]) /\ w' = w.alloc (.cells #[.map mb] 134) :=
  callsIn_wide.1 (Lay.maps_Keys_154 mb w)
theorem xJD : (prog.info? 196).map (fun i => (i.zero, i.size, i.bytes)) = some (some (.agg #[.string { data := #[] }, .slice none 0 0]), 2, 40) := by kernel_rfl
theorem xO2 {rest : List Oper} {o : Oper} (s x : Operand)
 (hgd : o.guard = none) (ho : o.op = .call {callee := .builtin .append, args := #[s, x], argTypes := #[193, 193] })
 (base : Nat) (v : Value) (n : Nat) (xs : List Value) (hs : a.eval s = v) (hown : w.ownsRow base 196 2 v n xs)
 (B : Nat) (A : OA) (m c : Nat) (news : List Value) (hx : a.eval x = .slice A m c) (hr : Reads w B 2 A m news) (h1 : ∀ u ∈ news, u.oneCell' = true)
 (hsz : n + m <= 10000000) (hbase : base <= w.heap.size)
 (h : ∀ v' w', w'.ownsRow base 196 2 v' (n + m) (xs ++ news) -> w.grownBy w' v.ownBlock -> wpList prog ops Q rest (a.put o.dst v') w') :
  wpList prog ops Q (o :: rest) a w := by
 obtain ⟨i0, hi0, hz0, hz1, hz2⟩ := info_parts xJD
 exact x0Z w hgd s x _ ho base 196 i0 _ 2 40 underlying193 hi0 hz0 hz1 hz2 rfl (by omega) v n xs hs hown B A m c news hx hr h1 (by simp only [maxLen]; omega) (by omega) hbase (fun v' w' h1 h2 _ => h v' w' h1 h2)
theorem xHN (s : ByteArray) (u : Value) (hu : u.oneCell' = true) (w : World) : (Instr.buildSlice 193 1 #[(0, .agg #[.string s, u])]).run prog w = .ok (.slice (some ⟨w.heap.size, 0, none⟩) 1 1) (w.alloc (.cells #[.string s, u] 196)) :=
  x1D (size := 2) underlying193 (by kernel_rfl) (by omega) (by omega) rfl w
end
section
section
variable {w w' : World} {Z Z' : LN} {gs ms gp r c gs2 ms2 gp2 r2 c2 : Nat} {A A2 : OA} {M M2 : Mod} {kv kv2 : KV}
theorem StoreAt.wide (h : StoreAt w Z gs ms gp r c A M kv) (hb : Below w.heap.size w w') (hZ : ∀ z ∈ Z', z ∈ Z ∨ w.heap.size <= z) : StoreAt w' Z' gs ms gp r c A M kv :=
 ⟨h.st.below hb, h.obs.imp fun p q hr => ⟨hr.1, by
  obtain ⟨go, mb, c1, ce, D, E, kv1, e, h1, h2⟩ := hr.2
  exact ⟨go, mb, c1, ce, D, E, kv1, e, fun hm => by
   rcases hZ mb hm with h3 | h3
   ·exact h1 h3
   ·have := h2.map.lt; omega, h2.below hb⟩⟩⟩
theorem StoreAt.kinds (h : StoreAt w Z gs ms gp r c A M kv) (hk : k ∈ ms :: foot gp r M.fl) : k = ms ∨ (∃ cs, k = gp /\ Blk w k 190 cs) ∨ (∃ cs, M.fl ≠ [] /\ k = r /\ Blk w k 4 cs) := by
 rcases kQ hk with e | hk
 ·exact .inl e
 ·rcases x1X hk with rfl | ⟨hf, rfl⟩
  ·exact .inr (.inl ⟨_, rfl, h.st.sp.blk⟩)
  ·rcases h.st.sp.row with e | ⟨_, cs, hb, _⟩
   ·exact absurd e hf
   ·exact .inr (.inr ⟨cs, hf, rfl, hb⟩)
theorem StoreAt.odd (h : StoreAt w Z gs ms gp r c A M kv) {e : TypeId} (h1 : 190 ≠ e) (h2 : 4 ≠ e) : ∀ k ∈ ms :: foot gp r M.fl, Odd w e k := fun k hk => by
 rcases h.kinds hk with rfl | ⟨cs, _, hb⟩ | ⟨cs, _, _, hb⟩
 ·exact Odd.map h.st.map
 ·exact Odd.blk hb h1
 ·exact Odd.blk hb h2
end
theorem xII {B' c' : Nat} {A' : OA} {tv tv' : List Value} (hR : Reads w w.heap.size 1 A told.length tv) (hR' : Reads w w.heap.size 1 A' told.length tv') (h : Rel2 (RowR w B []) tv told) (h' : Rel2 (RowR w B' []) tv' told) (hm : told.length <= 1000) :
  Calls prog 32 #[.slice A told.length c, .slice A' told.length c'] w fun e w' => e = .returned (.bool true) /\ Below w.heap.size w w' := by
 have HR := kH (kA hR hR')
 have HY := kH (kA h h')
 clear hR hR' h h'
 go_enter func32, ntmps32
 go_wp2
 go_loopw [13] (fun i wr => ∃ k : Nat, k <= told.length /\ i = .int .i64 k /\ Below w.heap.size w wr) (fun i _ => told.length - (intS i).toNat)
 case atStart => exact ⟨0, kY _, rfl, kB _ _⟩
 case round =>
  obtain ⟨k, hk, rfl, hb⟩ := hrel
  have hwk := wK k (by omega)
  by_cases hlt : k < told.length
  ·obtain ⟨ad, u, rfl, hab, hu, hc⟩ := (HR.out.1.since hb).at_ hlt
   obtain ⟨ad', u', rfl, hab', hu', hc'⟩ := (HR.out.2.since hb).at_ hlt
   obtain ⟨bs, hbs, A1, c1, rfl, hy, hsm, -⟩ := HY.out.1.at_ hu
   obtain ⟨bs', hbs', A2, c2, rfl, hy', hsm', -⟩ := HY.out.2.at_ hu'
   rw [hbs] at hbs'
   injection hbs' with hbs'
   subst hbs'
   have k1 := fun q => x4C (P := prog) ((((Own.bytes hy hsm).since hb).drewN q)) c1 35 9 5 underlying35 underlying5 underlying9
   have k2 := fun q => x4C (P := prog) ((((Own.bytes hy' hsm').since hb).drewN q)) c2 35 9 5 underlying35 underlying5 underlying9
   have HB := kH hb
   clear hb hy hy' hsm hsm' hu hu' hbs
   generalize strOf bs = s1 at *
   generalize bs.length = nb at *
   go_wp2_with fail
   go_quiet (fail)
   go_wp2
   exact ⟨⟨k + 1, by omega, by go_num, x1C HB.out _⟩, by simp only [intS]; omega⟩
  ·obtain rfl : k = told.length := by omega
   go_wp2
   go_ret
   exact ⟨rfl, hb⟩
end
structure InvP (n : Nat) (M : Mod) : Prop where
 keys : Keys1 M.ob
 few : M.ob.length <= n
 obs : ∀ p ∈ M.ob, OkO n p.2
 nms : ∀ p ∈ M.ob, ∃ nm, p.1 = keyB nm /\ isNameB nm = true
 pos : ∀ p ∈ M.ob, ∀ e ∈ p.2.e, 1 <= e.2
theorem Inv.p (h : Inv n M) : InvP n M := ⟨h.keys, h.few, h.obs, h.nms, fun p hp e he => h.good.pos e (mem_flatMap.2 ⟨p, hp, he⟩)⟩
theorem xFV (h : InvP n M) (ho : Rel2 (ObjR w Z) kv M.ob) {ns : List Key} (hp : ns.Perm (kv.map (·.1))) {k : Key} (hk : k ∈ ns) : ∃ o nm, gget M.ob k = some o /\ k = keyB nm /\ isNameB nm = true := by
 have hm : k ∈ M.ob.map (·.1) := by rw [<- ho.keys ObjR.key]; exact hp.mem_iff.1 hk
 obtain ⟨p, hp, rfl⟩ := List.mem_map.1 hm
 obtain ⟨nm, e, hn⟩ := h.nms p hp
 exact ⟨p.2, nm, h.keys.get hp, e, hn⟩
theorem xHZ (h : InvP n M) {k : Key} (hg : gget M.ob k = some o) (hn : n <= 1000000) : o.a.length <= 1000000 /\ o.e.length <= 1000000 /\ (∀ q ∈ o.a, q.2.length <= 65536) := by
 have hm := x1S hg
 have ho := h.obs _ hm
 have hl := x2E (L := o.e) (fun e he => h.pos _ hm e he)
 have h1 := ho.e
 have h2 := ho.d
 have h3 := ho.a
 unfold needsB at h1
 simp only at h1 h2 h3
 exact ⟨by omega, by omega, ho.v⟩
section
open Go.RowKit Go.BigFrame Go.Shelf Go.Sort Go.Maps Go.WideElems
def srt (l : List Key) : List Key := l.mergeSort leB
theorem xDO {ns l : List Key} (hp : ns.Perm l) (hs : ns.Pairwise (fun x y => leB x y = true)) : ns = srt l := by
 have h2 : (srt l).Pairwise (fun x y => leB x y = true) := pairwise_mergeSort (fun a b c h1 h2 => by simp only [leB, decide_eq_true_eq] at *; exact le_trans h1 h2) (fun a b => by simp only [leB, Bool.or_eq_true, decide_eq_true_eq]; exact le_total a b) _
 exact List.Perm.eq_of_pairwise (le := fun x y => leB x y = true) (fun a b _ _ h1 h2 => by
  simp only [leB, decide_eq_true_eq] at h1 h2
  exact List.le_antisymm h1 h2) hs h2 (hp.trans (mergeSort_perm _ _).symm)
theorem xOR (l : List Key) : (srt l).length = l.length := length_mergeSort _
def atC (p : Key × Value) : List Value := [keyV p.1, p.2]
theorem xGA (p : Key × Value) : (atC p).length = 2 := rfl
def atR (w : World) (B : Nat) (p : Key × Value) (q : Key × LN) : Prop := p.1 = q.1 /\ RowR w B [] p.2 q.2
def atL (a : AL) (l : List Key) : AL := l.map fun k => (k, (gget a k).getD [])
def AttrsTo (w : World) (a : AL) (e : Ending) (w' : World) : Prop := ∃ A2 c2 l, e = .returned (.slice A2 a.length c2) /\ w'.ownsRow w.heap.size 196 2 (.slice A2 a.length c2) a.length (l.flatMap atC) /\ Rel2 (atR w' w.heap.size) l (atL a (srt (a.map (·.1)))) /\ Below w.heap.size w w'
theorem xC9 (w : World) (h : SMap prog 9 w b l) (hl : l.length <= 1000000) :
  Calls prog 76 #[.func (.func 208) #[] #[.pointer (some ⟨w.heap.size, 0, none⟩)]] (w.alloc (.cells #[.map (some b)] 134)) fun e w' => ∃ v ns, e = .returned v /\ ns.Perm (l.map (·.1)) /\ ns.Pairwise (fun x y => leB x y = true) /\ NamR w' w.heap.size v ns /\ Below w.heap.size w w' := by
 refine (callsIn_wide.1 (Lay.slices_Sorted_keys_76_154 b l.length (.map (l.map encKV)) heldR w h.owns (by rw [x3B]; simp only [maxLen]; omega) (by rw [x3B]; omega))).mono ?_
 rintro e w' ⟨v, ss, rfl, hS, hrow, hnil, hb⟩
 have ha : Below w.heap.size w (w.alloc (.cells #[.map (some b)] 134)) := (kB _ _).alloc (kR _) _
 refine ⟨v, ss.mergeSort leB, rfl, ?_, ?_, ?_, ha.trans (hb.mono (by simp))⟩
 ·rw [x8S] at hS
  exact (mergeSort_perm _ _).trans hS
 ·exact pairwise_mergeSort (fun a b c h1 h2 => by simp only [leB, decide_eq_true_eq] at *; exact le_trans h1 h2) (fun a b => by simp only [leB, Bool.or_eq_true, decide_eq_true_eq]; exact le_total a b) _
 ·refine x0B ?_ (show w.heap.size <= (w.alloc (.cells #[.map (some b)] 134)).heap.size by simp)
  rw [length_mergeSort]
  exact hrow
theorem StoreAt.attrs2 (h : StoreAt w Z gs ms gp r c A M kv) (bs : LN) (hl : bs.length <= 1000000) (hg : gget M.ob (keyB bs) = some o) (ha : o.a.length <= 1000000) (hv : ∀ q ∈ o.a, q.2.length <= 65536) :
  Calls prog 104 #[.pointer (some ⟨gs, 0, none⟩), .string (strOf bs)] w (AttrsTo w o.a) := by
 rcases h.obs.get ObjR.key (keyB bs) with ⟨_, h2⟩ | ⟨v, u, h1, h2, -, go, mb, c1, ce, D, E, kv1, e, -, hat⟩
 ·rw [hg] at h2; cases h2
 rw [hg] at h2
 injection h2 with h2
 subst h2
 have hvv : aget kv (keyB bs) = some (.pointer (some ⟨go, 0, none⟩)) := by rw [h1]; exact congrArg some e
 have HO := kH (xAH h.st bs hl)
 rw [hvv, Option.getD_some] at HO
 have q1 : w.cell? ⟨go, 1, none⟩ = some (.map (some mb)) := hat.blk.cell 1
 have hkl : kv1.length = o.a.length := hat.att.len
 have HA := kH hat
 have HK := kH (xHJ (some mb) w)
 have HS := kH (xC9 w hat.map (by omega))
 have HV := kH hv
 have hgol := hat.blk.lt
 clear h h1 hg e hat hvv hv
 go_enter func104, ntmps104
 go_wp2_with fail
 refine HO.out.mono ?_
 rintro e w' ⟨rfl, rfl⟩
 go_wp2_with fail
 refine HK.out.mono ?_
 rintro e w2 ⟨rfl, rfl⟩
 go_wp2_with fail
 refine HS.out.mono ?_
 rintro e w3 ⟨v, ns, rfl, hnp, hnsr, hrow, hb⟩
 obtain ⟨An, cn, rfl, hcn, hnov⟩ := hrow.form
 have hnl : ns.length = o.a.length := by rw [hnp.length_eq, length_map]; exact hkl
 have hnsq : ns = srt (o.a.map (·.1)) := by
  have hk1 := HA.out.att.keys AttrR.key
  rw [<- hk1]
  exact xDO hnp hnsr
 have HNSQ := kH hnsq
 have HX := kH (kA hnp (kA hrow hb))
 have hgs3 : go < w3.heap.size := by have := hb.size; omega
 clear hnp hrow hb hnov HO HK HS hnsr hnsq
 have hz : ∀ w, (zeroValue 35).run prog w = .ok (.slice none 0 0) w := fun w => by kernel_rfl
 go_wp2
 go_loopw [6, 21] (fun lv iv wr => ∃ (k : Nat) (l : List (Key × Value)), k <= ns.length /\ iv = .int .i64 k /\ wr.ownsRow w3.heap.size 196 2 lv k (l.flatMap atC) /\ Rel2 (atR wr w3.heap.size) l (atL o.a (ns.take k)) /\ Below w3.heap.size w3 wr) (fun _ iv _ => ns.length - (intS iv).toNat)
 case atStart => exact ⟨0, [], by omega, rfl, World.ownsRow_nil _ _ _ _, .nil, kB _ _⟩
 case round =>
  obtain ⟨k, l, hk, rfl, hown, hrl, hb⟩ := hrel
  have HRL := kH hrl
  clear hrl
  obtain ⟨wo, hwo⟩ := kX wr
  subst hwo
  obtain ⟨A1, cap, rfl⟩ : ∃ A1 cap, u6 = .slice A1 k cap := by
   rcases hown.2 with ⟨e, h0⟩ | ⟨g, c4, cur, e, _⟩
   ·exact ⟨none, 0, by rw [e, h0]⟩
   ·exact ⟨_, c4, e⟩
  have HW := kH (kA hown hb)
  have hwk := wK k (by omega)
  have hbw : Below w.heap.size w wo := HX.out.2.2.trans (hb.mono HX.out.2.2.size)
  by_cases hlt : k < ns.length
  ·obtain ⟨kq, hkq⟩ : ∃ kq, ns[k]? = some kq := ⟨_, List.getElem?_eq_getElem hlt⟩
   have hrow : NamR wo _ (.slice An ns.length cn) ns := HX.out.2.1.below hb
   obtain ⟨ad, u2, rfl, hab, hu2, hc⟩ := hrow.reads.at_ hlt
   have hu2' : u2 = keyV kq := by
    rw [List.getElem?_map, hkq, Option.map_some] at hu2
    injection hu2 with hu2
    exact hu2.symm
   subst hu2'
   have hat := HA.out.below hbw
   have c1 : wo.cell? ⟨go, 1, none⟩ = some (.map (some mb)) := hat.blk.cell 1
   have hm : kq ∈ kv1.map (·.1) := HX.out.1.mem_iff.1 (mem_of_getElem? hkq)
   obtain ⟨p, hp, hpk⟩ := List.mem_map.1 hm
   have hkl2 := hat.map.key_len underlying9 hp
   rw [hpk] at hkl2
   have hlk := x36 (P := prog) (t := 134) (et := 35) underlying9 underlying134 (hz wo) hat.map kq hkl2
   obtain ⟨v, bsv, e1, e2, e3⟩ : ∃ v bsv, aget kv1 kq = some v /\ gget o.a kq = some bsv /\ AttrR wo [] (kq, v) (kq, bsv) := by
    rcases hat.att.get AttrR.key kq with ⟨h1, _⟩ | ⟨v, u, h1, h2, h3⟩
    ·exfalso
     rw [hat.att.keys AttrR.key] at hm
     have hg0 : gget o.a kq = none := by
      rcases hat.att.get AttrR.key kq with ⟨_, h2⟩ | ⟨v, u, h1', _, _⟩
      ·exact h2
      ·rw [h1] at h1'; cases h1'
     obtain ⟨p', hp', e'⟩ := List.mem_map.1 hm
     exact xC4 hg0 p' hp' e'
    ·exact ⟨v, u, h1, h2, h3⟩
   have htk : atL o.a (ns.take (k + 1)) = atL o.a (ns.take k) ++ [(kq, bsv)] := by
    unfold atL
    rw [take_add_one, hkq, map_append]
    simp [e2]
   have HTK := kH htk
   have HSV : Hid (∀ b ∈ bsv, b < 256) := kH (by obtain ⟨_, _, _, _, h, _⟩ := e3.2; exact h)
   clear htk
   rw [e1, Option.getD_some] at hlk
   obtain ⟨Av, cv, rfl, hov, hsv, -⟩ := e3.2
   have hbl : bsv.length <= 65536 := HV.out _ (x1S e2)
   have HBC := kH (x0Q Av bsv.length cv bsv wo wo.heap.size (by omega) (Own.bytes hov hsv))
   have hbs := xHN
   clear hkq hrow hu2 hat hm hp hpk hkl2 e1 e2 e3 hov hsv hown hb hbw
   unfold keyV at *
   go_wp2_with fail
   refine HBC.out.mono ?_
   rintro e w5 ⟨vc, rfl, hoc, hb5⟩
   have hbu : ∃ Ac cc, vc = .slice Ac bsv.length cc := by
    rcases hoc.2 with ⟨e, h0⟩ | ⟨g, c4, cur, e, _⟩
    ·exact ⟨none, 0, by rw [e, h0]⟩
    ·exact ⟨_, c4, e⟩
   obtain ⟨Ac, cc, rfl⟩ := hbu
   have hbs5 := hbs { data := (kq.toArray) } (.slice Ac bsv.length cc) rfl w5
   have hs35 := HW.out.2.size
   have HRW5 : Hid (RowR w5 w3.heap.size [] (.slice Ac bsv.length cc) bsv) := kH ⟨Ac, cc, rfl, x0B hoc hs35, HSV.out, fun _ _ h => by cases h⟩
   have H5 := kH (kA (x06 HW.out.1 fun j hj => hb5.block j (x02 HW.out.1 j hj)) hb5)
   have hs5 := hb5.size
   have hs3 := HW.out.2.size
   have hnew := Reads.newN w5 [.string { data := kq.toArray }, .slice Ac bsv.length cc] 1 2 196 (0, 0) rfl
   have HNEW := kH hnew
   have hsA : w5.heap.size < (w5.alloc (.cells #[.string { data := kq.toArray }, .slice Ac bsv.length cc] 196)).heap.size := by simp
   have HB6 := kH (H5.out.2.alloc (by omega) (.cells #[.string { data := kq.toArray }, .slice Ac bsv.length cc] 196))
   have HOW := kH (show (w5.alloc (.cells #[.string { data := kq.toArray }, .slice Ac bsv.length cc] 196)).ownsRow w3.heap.size 196 2 (.slice A1 k cap) k (l.flatMap atC) from x06 H5.out.1 fun j hj => kG _ _ _ (x02 H5.out.1 j hj))
   have HB5 := kH (show Below w3.heap.size w3 (w5.alloc (.cells #[.string { data := kq.toArray }, .slice Ac bsv.length cc] 196)) from (HW.out.2.trans (H5.out.2.mono hs3)).alloc (by omega) _)
   clear hoc hb5 HBC hbs hlk hnew
   go_wp2_with (refine xO2 (.tmp 25) (.tmp 35) rfl rfl w3.heap.size (.slice A1 k cap) k (l.flatMap atC) rfl HOW.out (w5.heap.size + 1) _ 1 1 [.string { data := kq.toArray }, .slice Ac bsv.length cc] rfl HNEW.out (by simp [Value.oneCell']) (by omega) (by omega) ?_; intro v2 w2 h2 g2)
   have hb6 : Below w3.heap.size w3 w2 := by
    exact HB5.out.grown g2 (by simp; omega) (fun j hj => (kD HOW.out _ hj).1)
   have honl : Only (rowOf (.slice A1 k cap)) (w5.alloc (.cells #[.string { data := kq.toArray }, .slice Ac bsv.length cc] 196)) w2 := (kU _ _).grown g2 (fun j e => .inl (x00.2 e))
   have hodd : ∀ j ∈ rowOf (.slice A1 k cap), Odd (w5.alloc (.cells #[.string { data := kq.toArray }, .slice Ac bsv.length cc] 196)) 5 j := fun j hj => by
    obtain ⟨cs, hb⟩ := x0J HOW.out (x00.1 hj)
    exact Odd.blk hb (by decide)
   have hrl2 : Rel2 (atR w2 w3.heap.size) (l ++ [(kq, .slice Ac bsv.length cc)]) (atL o.a (ns.take (k + 1))) := by
    rw [HTK.out]
    have g1 := HRL.out.imp fun a b (hr : atR _ _ a b) => (show atR w2 w3.heap.size a b from ⟨hr.1, (hr.2.below HB6.out).only honl fun j hj => .inr (hodd j hj)⟩)
    exact g1.app (.cons ⟨rfl, (HRW5.out.below (x05 _ _)).only honl fun j hj => .inr (hodd j hj)⟩ .nil)
   have hfl : (l ++ [(kq, Value.slice Ac bsv.length cc)]).flatMap atC = l.flatMap atC ++ [.string { data := kq.toArray }, .slice Ac bsv.length cc] := by
    rw [flatMap_append]; rfl
   rw [<- hfl] at h2
   have H6 := kH (kA h2 (kA hrl2 hb6))
   clear h2 g2 hb6 honl hodd hrl2 hfl
   go_wp2
   go_roundw
   case rel => exact ⟨k + 1, _, by omega, by go_num, H6.out.1, H6.out.2.1, H6.out.2.2⟩
   case measure => simp [intS]; omega
  ·obtain rfl : k = ns.length := by omega
   have hfin := HW.out
   go_wp2
   go_ret
   have hf1 := HW.out.1
   have hf2 := HRL.out
   rw [take_length, HNSQ.out] at hf2
   rw [hnl] at hf1
   have hs3 := HX.out.2.2.size
   exact ⟨A1, cap, l, by rw [<- hnl]; rfl, x0B hf1 hs3, hf2.imp fun a b hr => ⟨hr.1, hr.2.weaken hs3⟩, hbw⟩
end
def sttxB (bs : LN) : LN := numB bs.length ++ bs
theorem x1F (bs : LN) : (sttxB bs).length = 8 + bs.length := by simp [sttxB, x04]
def putA (q : Key × LN) : LN := sttxB (keyL q.1) ++ sttxB q.2
def putE (e : Nat × Nat) : LN := numB e.1 ++ numB e.2
def putO (nm : LN) (o : Ob) : LN := sttxB nm ++ (sttxB o.d ++ (numB o.a.length ++ ((atL o.a (srt (o.a.map (·.1)))).flatMap putA ++ (numB o.e.length ++ o.e.flatMap putE))))
theorem xOC (a : AL) (l : List Key) : (atL a l).length = l.length := length_map _
theorem xK8 (k : Key) : keyV k = .string (strOf (keyL k)) := xMD k
theorem xAC (k : Key) : ∀ b ∈ keyL k, b < 256 := fun b hb => by
 obtain ⟨x, _, rfl⟩ := List.mem_map.1 hb
 exact x.toNat_lt
theorem WTo.bel {p : OA} {bs' : LN} (hb : Below w0.heap.size w0 w) (hw : Wr w w0.heap.size F p bs) (h : WTo w w0.heap.size F p bs' w') : Below w0.heap.size w0 w' := by
 obtain ⟨F', _, ho, _⟩ := h
 exact hb.trans (ho.below hw.over hb.size)
theorem x97 (w : World) (p : Addr) (s : Key × Value) (hc : ∀ j v, (atC s)[j]? = some v -> w.cell? (p.add j) = some v) : (loadVar 196 p).run prog w = .ok (.agg (atC s).toArray) w := by
 have hl : (loadCells p 2).run prog w = .ok (atC s).toArray w := run_loadCells_list (P := prog) w p (atC s) hc
 have hagg : (isAgg 196).run prog w = .ok true w := by
  unfold isAgg
  rw [Sem.run_bind, run_underlying underlying196 w]
  rfl
 have hi : (prog.info? 196).map (·.size) = some 2 := by kernel_rfl
 cases hq : prog.info? 196 with
 | none => simp [hq] at hi
 | some i =>
  have hs : i.size = 2 := by simpa [hq] using hi
  simp [loadVar, Sem.run_bind, hagg, sizeOf, typeInfo, hq, hs, hl]
theorem x8Y {rest : List Oper} (hgd : op.guard = none) (x : Operand) (ho : op.op = .load 196 x)
 (p : Addr) (hx : a.eval x = .pointer (some p)) (nm : LN) (u : Value) (hc0 : w.cell? p = some (.string (strOf nm))) (hc1 : w.cell? (p.add 1) = some u)
  (h : wpList prog ops Q rest (a.put op.dst (.agg #[.string (strOf nm), u])) w) : wpList prog ops Q (op :: rest) a w :=
 wpList_plain hgd fun _ hK => by
  have hl := x97 w p (keyB nm, u) (fun j v hj => by
   unfold atC at hj
   rw [x17] at hj
   match j, hj with
   | 0, hj => simp at hj; subst hj; simpa [Addr.add] using hc0
   | 1, hj => simp at hj; subst hj; exact hc1
   | j + 2, hj => simp at hj)
  have e : (atC (keyB nm, u)).toArray = #[.string (strOf nm), u] := by unfold atC; rw [x17]
  rw [e] at hl
  unfold Oper.wp execOp
  simp only [ho, hx, Instr.loadAt, Instr.sureAddr, Sem.run_bind, Sem.run_pure, kS, hl]
  exact hK _ _ h
theorem xPX {W : World} {l : List (Key × Value)} (h : W.ownsRow B 196 2 (.slice A n c) n (l.flatMap atC)) {p : Key × Value} (hk : l[k]? = some p) (hn : k < n) : ∃ ad, A = some ad /\ ad.block < W.heap.size /\ W.cell? (ad.add (k * 2)) = some (keyV p.1) /\ W.cell? ((ad.add (k * 2)).add 1) = some p.2 := by
 obtain ⟨ad, e, hb, hc⟩ := (kV h).2 (by omega)
 have c0 := hc (k * 2 + 0) (keyV p.1) (by rw [x1K atC 2 xGA l k 0 p hk (by omega)]; rfl)
 have c1 := hc (k * 2 + 1) p.2 (by rw [x1K atC 2 xGA l k 1 p hk (by omega)]; rfl)
 exact ⟨ad, e, hb, c0, by rw [x1Q]; exact c1⟩
theorem xP2 {W : World} {E : OA} {es : List (Nat × Nat)} (h : OwnE W B (.slice E es.length c) (natE es)) {p : Nat} {e : Nat × Nat} (hp : es[p]? = some e) : ∃ ad, E = some ad /\ ad.block < W.heap.size /\ W.cell? (ad.add (p * 2)) = some (.int .i64 (e.1 : Int)) /\ W.cell? ((ad.add (p * 2)).add 1) = some (.int .i64 (e.2 : Int)) := by
 have hl := (List.getElem?_eq_some_iff.1 hp).1
 have hE : ExtR W W.heap.size E (natE es) := OwnE.ext (by rw [x0T]; exact h)
 obtain ⟨ad, q, e1, hb, he, c0, c1⟩ := hE.get (k := p) (by rw [x0T]; exact hl)
 simp only [natE, List.getElem?_map, hp, Option.map_some] at he
 injection he with he
 subst he
 exact ⟨ad, e1, hb, c0, c1⟩
theorem xPL (h0 : StoreAt w0 Z gs ms gp r c A M kv) (hb : Below w0.heap.size w0 w) (hw : Wr w w0.heap.size F (some ⟨g, 0, none⟩) bs)
 (nm : LN) (hsm : Small nm) (hnl : nm.length <= 1000) (hg : gget M.ob (keyB nm) = some o) (hd : o.d.length <= 65536) (ha : o.a.length <= 1000000) (he : o.e.length <= 1000000) (hv : ∀ q ∈ o.a, q.2.length <= 65536) (hlen : bs.length + (putO nm o).length <= 4000000) :
  Calls prog 59 #[.pointer (some ⟨gs, 0, none⟩), .pointer (some ⟨g, 0, none⟩), .string (strOf nm)] w fun e w' => e = .returned (.tuple #[]) /\ WTo w w0.heap.size F (some ⟨g, 0, none⟩) (bs ++ putO nm o) w' := by
 rcases h0.obs.get ObjR.key (keyB nm) with ⟨_, h2⟩ | ⟨v, u, h1, h2, -, go, mb, c1, ce, D, E, kv1, e, -, hat⟩
 ·rw [hg] at h2; cases h2
 have hg' := hg
 rw [hg] at h2
 injection h2 with h2
 subst h2
 have hvv : aget kv (keyB nm) = some (.pointer (some ⟨go, 0, none⟩)) := by rw [h1]; exact congrArg some e
 have q0 : w.cell? ⟨gs, 0, none⟩ = some (.map (some ms)) := (h0.st.below hb).c0
 have hz : (zeroValue 147).run prog w = .ok (.pointer none) w := by kernel_rfl
 have hlk := x36 (P := prog) (t := 118) (et := 147) underlying9 underlying118 hz (h0.st.below hb).map (keyB nm) (by simp [keyB, maxLen]; omega)
 rw [x17, hvv, Option.getD_some] at hlk
 unfold putO at hlen ⊢
 simp only [kN, x1F, x04] at hlen
 have HLEN := kH hlen
 have H0 := kH (kA h0 hg')
 have HA := kH hat
 have HV := kH hv
 have HC : Hid (∀ w', Below w0.heap.size w0 w' -> w'.cell? ⟨go, 0, none⟩ = some (.slice D o.d.length c1) /\ w'.cell? ⟨go, 1, none⟩ = some (.map (some mb)) /\ w'.cell? ⟨go, 2, none⟩ = some (.slice E o.e.length ce)) := kH fun w' h => ⟨(hat.below h).blk.cell 0, (hat.below h).blk.cell 1, (hat.below h).blk.cell 2⟩
 have HML : Hid (∀ w', Below w0.heap.size w0 w' -> ∀ (t : TypeId), True) := kH fun _ _ _ => trivial
 have HT1 := kH (x7J w w0.heap.size F (some ⟨g, 0, none⟩) bs nm hw hsm (by omega) hb.size)
 have HB := kH (kA hb hw)
 clear h0 hg hg' hat h1 e hvv hv hb hw hlen
 go_enter func59, ntmps59
 go_wp2_with fail
 refine HT1.out.mono ?_
 rintro e w1 ⟨rfl, hw1⟩
 have hb1 := WTo.bel HB.out.1 HB.out.2 hw1
 obtain ⟨F1, hW1, ho1, hf1⟩ := hw1
 obtain ⟨t1, ht1⟩ := kX (bs ++ sttxB nm)
 have hW1' : Wr w1 w0.heap.size F1 (some ⟨g, 0, none⟩) t1 := by rw [ht1]; exact hW1
 have hl1 : t1.length = bs.length + (8 + nm.length) := by rw [ht1, kN, x1F]
 obtain ⟨c0, c1', c2'⟩ := HC.out w1 hb1
 have HT2 := kH (x5J w1 w0.heap.size F1 (some ⟨g, 0, none⟩) t1 o.d w0.heap.size D o.d.length c1 hW1' ((HA.out.bytes).since hb1) (fun a ea h0' hm => by
  obtain ⟨ad, ea', hab, _⟩ := HA.out.bytes.1.2 (by omega)
  rw [ea'] at ea
  injection ea with ea
  subst ea
  have := hW1'.over _ hm
  omega) (by have := HLEN.out; omega) hb1.size)
 have HT1E := kH ht1
 have H1 := kH (kA ho1 (kA hf1 (kA hb1 (kA hW1' (kA ht1 hl1)))))
 clear ho1 hf1 hb1 hW1 hW1' ht1 hl1 HT1 hlk q0
 go_wp2_with fail
 refine HT2.out.mono ?_
 rintro e w2 ⟨rfl, hw2⟩
 have hb2 := WTo.bel H1.out.2.2.1 H1.out.2.2.2.1 hw2
 have hw2' := WTo.after H1.out.1 H1.out.2.1 hw2
 obtain ⟨F2, hW2, ho2, hf2⟩ := hw2'
 obtain ⟨t2, ht2⟩ := kX (t1 ++ sttxB o.d)
 have hW2' : Wr w2 w0.heap.size F2 (some ⟨g, 0, none⟩) t2 := by rw [ht2]; exact hW2
 have hl2 : t2.length = bs.length + (8 + nm.length) + (8 + o.d.length) := by rw [ht2, kN, x1F, H1.out.2.2.2.2.2]
 obtain ⟨c0, c1', c2'⟩ := HC.out w2 hb2
 have HM : Hid (∀ w', Below w0.heap.size w0 w' -> SMap prog 9 w' mb kv1) := kH fun w' h => (HA.out.below h).map
 have hmap2 := HM.out w2 hb2
 have hkl : kv1.length = o.a.length := HA.out.att.len
 have hml : ∀ ty, (Builtin.len_ #[134] ty #[.map (some mb)]).run prog w2 = .ok (.int .i64 o.a.length) w2 := fun ty => by
  have := World.ownsMap.len hmap2.owns (t := 134) underlying134 ty
  rw [x3B, hkl] at this
  exact this
 have HT3 := kH (x1G w2 w0.heap.size F2 (some ⟨g, 0, none⟩) t2 o.a.length hW2' (by have := HLEN.out; omega) hb2.size)
 have H2 := kH (kA ho2 (kA hf2 (kA hb2 (kA hW2' (kA ht2 hl2)))))
 clear ho2 hf2 hb2 hW2 hW2' ht2 hl2 HT2 hw2 hmap2 hkl H1
 go_wp2_with fail
 refine HT3.out.mono ?_
 rintro e w3 ⟨rfl, hw3⟩
 have hw3' := WTo.after H2.out.1 H2.out.2.1 hw3
 have hb3 := WTo.bel HB.out.1 HB.out.2 hw3'
 have HX := kH ((H0.out.1.below hb3).attrs2 nm (by omega) H0.out.2 ha HV.out)
 have HB3 := kH (kA hb3 hw3')
 clear hw3 hw3' hb3 HT3
 go_wp2_with fail
 refine HX.out.mono ?_
 rintro e w4 ⟨AL, cL, l, rfl, hrow, hrl, hb34⟩
 obtain ⟨t3, ht3⟩ := kX (t2 ++ numB o.a.length)
 have hl3 : t3.length = bs.length + (8 + nm.length) + (8 + o.d.length) + 8 := by rw [ht3, kN, x04, H2.out.2.2.2.2.2]
 obtain ⟨F3, hW3, ho3, hf3⟩ := HB3.out.2
 have hu3 := hW3.under
 have hW4 : Wr w4 w0.heap.size F3 (some ⟨g, 0, none⟩) t3 := by rw [ht3]; exact hW3.below hb34
 have ho4 : Only F w w4 := ho3.trans (kO hb34 F3) hf3
 obtain ⟨L, hL⟩ := kX (atL o.a (srt (o.a.map (·.1))))
 rw [<- hL] at hrl
 have hLl : L.length = o.a.length := by rw [hL, xOC, xOR, length_map]
 have hll : l.length = o.a.length := by rw [hrl.len, hLl]
 have hlT : t3.length + (L.flatMap putA).length + 8 + (o.e.flatMap putE).length <= 4000000 := by
  have := HLEN.out
  rw [<- hL] at this
  omega
 have hs34 := hb34.size
 have hs04 : w0.heap.size <= w3.heap.size := HB3.out.1.size
 have H4 := kH (kA hW4 (kA ho4 (kA hf3 (kA hu3 (kA hrow (kA hrl (kA ht3 hL)))))))
 have HLT := kH (kA hlT (kA hLl hll))
 clear hrow hrl hb34 ht3 hl3 hW3 ho3 hf3 hu3 hW4 ho4 hL hLl hll hlT HX
 go_wp2_with fail
 go_loopw [37] (fun iv wr => ∃ k : Nat, k <= o.a.length /\ iv = .int .i64 k /\ WTo w4 w0.heap.size F3 (some ⟨g, 0, none⟩) (t3 ++ (L.take k).flatMap putA) wr) (fun iv _ => o.a.length - (intS iv).toNat)
 case atStart => exact ⟨0, by omega, rfl, F3, by simpa using H4.out.1, kU _ _, kF _ _⟩
 case round =>
  obtain ⟨k, hk, rfl, F', hW', ho', hf'⟩ := hrel
  obtain ⟨wq, hwq⟩ := kX wr
  subst hwq
  have hwk := wK k (by omega)
  have hs4q := ho'.size
  by_cases hlt : k < o.a.length
  -- {A
  ·obtain ⟨p, hp⟩ : ∃ p, l[k]? = some p := ⟨_, List.getElem?_eq_getElem (by rw [HLT.out.2.2]; exact hlt)⟩
   obtain ⟨q, hq, hpq, Av, cv, hpv, hov, hsv, -⟩ := H4.out.2.2.2.2.2.1.at_ hp
   obtain ⟨hft, post, hfp⟩ := x7R putA hq
   have hover := x0G H4.out.2.2.2.2.1
   have hrowq := x13 H4.out.2.2.2.2.1 ho' (fun j hj hm => by have := hover j hj; have := H4.out.2.2.2.1 j hm; omega)
   obtain ⟨ad, rfl, hab, hc0, hc1⟩ := xPX hrowq hp hlt
   rw [hpq, xK8] at hc0
   rw [hpv] at hc1 hov
   have hlen2 : (t3 ++ (L.take k).flatMap putA).length + (8 + (keyL q.1).length) + (8 + q.2.length) <= 4000000 := by
    have h1 := HLT.out.1
    rw [hfp] at h1
    simp only [kN, putA, x1F] at h1 ⊢
    omega
   have hovq := x13 hov ho' (fun j hj hm => by have := x0G hov j hj; have := H4.out.2.2.2.1 j hm; omega)
   have hsep : ∀ j ∈ rowOf (.slice Av q.2.length cv), j ∉ F' := fun j hj hm => by
    have h1 := x0G hov j hj
    have h2 := x02 hov j hj
    rcases hf' j hm with h3 | h3
    ·have := H4.out.2.2.2.1 j h3; omega
    ·omega
   obtain ⟨nq, hnq⟩ := kX (keyL q.1)
   rw [<- hnq] at hc0 hlen2
   have hnqs : Small nq := by rw [hnq]; exact xAC _
   obtain ⟨tk, htk⟩ := kX (t3 ++ (L.take k).flatMap putA)
   rw [<- htk] at hlen2 hW'
   obtain ⟨wB, hwB⟩ := kX (wq.alloc (.cells #[.string (strOf nq), .slice Av q.2.length cv] 196))
   obtain ⟨gB, hgB⟩ := kX wq.heap.size
   have hbB : Below wq.heap.size wq wB := by rw [hwB]; exact x05 _ _
   have KB : Blk wB gB 196 #[.string (strOf nq), .slice Av q.2.length cv] := by rw [hwB, hgB]; exact kW _ _ _
   have hsB := hbB.size
   have hgBF : gB ∉ F' := fun hm => by have := hW'.under _ hm; omega
   have HT4 := kH (x7J wB w0.heap.size F' (some ⟨g, 0, none⟩) tk nq (hW'.below hbB) hnqs (by omega) (by omega))
   have k0 : wB.cell? ⟨gB, 0, none⟩ = some (.string (strOf nq)) := KB.cell 0
   have hgl := KB.lt
   have HWB := kH hwB
   have HGB := kH hgB
   have HQ := kH (kA hW' (kA ho' (kA hf' (kA hbB (kA KB (kA hgBF (kA hovq (kA hsep (kA hsv (kA hft (kA hnq (kA htk hlen2))))))))))))
   have HROW := kH (kA hov hs4q)
   clear hp hq hpq hpv hov hsv hft hfp hover hrowq hovq hsep hlen2 hW' ho' hf' hbB KB hgBF hnqs hwB hgB hnq htk
   go_wp2_with (have _h := hc0; refine x8Y rfl (.tmp 39) rfl _ rfl nq _ hc0 hc1 ?_; clear _h hc0 hc1)
   rw [<- HWB.out, <- HGB.out]
   refine HT4.out.mono ?_
   rintro e w5 ⟨rfl, F5, hW5, ho5, hf5⟩
   have hW5' : Wr w5 w0.heap.size F5 (some ⟨g, 0, none⟩) (tk ++ sttxB nq) := hW5
   have k1 : w5.cell? ⟨gB, 1, none⟩ = some (.slice Av q.2.length cv) := (HQ.out.2.2.2.2.1.of (ho5.block _ hgl HQ.out.2.2.2.2.2.1)).cell 1
   have hov5 := x13 (x06 HQ.out.2.2.2.2.2.2.1 fun j hj => HQ.out.2.2.2.1.block j (x02 HQ.out.2.2.2.2.2.2.1 j hj)) ho5 HQ.out.2.2.2.2.2.2.2.1
   have hs5 := ho5.size
   have hgl5 : gB < w5.heap.size := by omega
   have HT5 := kH (x5J w5 w0.heap.size F5 (some ⟨g, 0, none⟩) (tk ++ sttxB nq) q.2 w5.heap.size Av q.2.length cv hW5' (Own.bytes hov5 HQ.out.2.2.2.2.2.2.2.2.1) (fun a ea h0' hm => by
    have hj : a.block ∈ rowOf (.slice Av q.2.length cv) := x00.2 (by rw [ea]; rfl)
    rcases hf5 _ hm with h3 | h3
    ·exact HQ.out.2.2.2.2.2.2.2.1 _ hj h3
    ·have := x02 HROW.out.1 _ hj; omega) (by rw [kN, x1F]; have := HQ.out.2.2.2.2.2.2.2.2.2.2.2.2; omega) (by omega))
   have H5 := kH (kA ho5 hf5)
   clear hW5 hW5' hov5 HT4 ho5 hf5 k0
   go_wp2_with fail
   refine HT5.out.mono ?_
   rintro e w6 ⟨rfl, hw6⟩
   have hfin := WTo.after HQ.out.2.1 HQ.out.2.2.1 (WTo.since HQ.out.2.2.2.1 (WTo.after H5.out.1 H5.out.2 hw6))
   have htx : plus (some ⟨g, 0, none⟩) (tk ++ sttxB nq) (numB q.2.length ++ q.2) = t3 ++ (L.take (k + 1)).flatMap putA := by
    rw [HQ.out.2.2.2.2.2.2.2.2.2.1, HQ.out.2.2.2.2.2.2.2.2.2.2.2.1]
    show t3 ++ (L.take k).flatMap putA ++ sttxB nq ++ sttxB q.2 = _
    rw [HQ.out.2.2.2.2.2.2.2.2.2.2.1]
    simp [putA]
   rw [htx] at hfin
   have HFIN := kH hfin
   clear hfin htx hw6 HT5
   go_wp2_with fail
   go_roundw
   case rel => exact ⟨k + 1, by omega, by go_num, HFIN.out⟩
   case measure => simp [intS]; omega
  -- A}
  ·obtain rfl : k = o.a.length := by omega
   have hwq := WTo.after H4.out.2.1 H4.out.2.2.1 ⟨F', hW', ho', hf'⟩
   rw [take_of_length_le (by rw [HLT.out.2.1]; omega)] at hwq
   clear hW' ho' hf'
   have hbq := WTo.bel HB.out.1 HB.out.2 hwq
   obtain ⟨c0, c1', c2'⟩ := HC.out wq hbq
   obtain ⟨F6, hW6, ho6, hf6⟩ := hwq
   obtain ⟨t6, ht6⟩ := kX (t3 ++ L.flatMap putA)
   rw [<- ht6] at hW6
   have hl6 : t6.length + 8 + (o.e.flatMap putE).length <= 4000000 := by rw [ht6, kN]; have := HLT.out.1; omega
   have HT6 := kH (x1G wq w0.heap.size F6 (some ⟨g, 0, none⟩) t6 o.e.length hW6 (by omega) hbq.size)
   have H6 := kH (kA ho6 (kA hf6 (kA hbq (kA hW6 ht6))))
   clear ho6 hf6 hbq hW6 ht6
   go_wp2_with fail
   refine HT6.out.mono ?_
   rintro e w7 ⟨rfl, hw7⟩
   obtain ⟨t7, ht7⟩ := kX (t6 ++ numB o.e.length)
   have hw7' : WTo w w0.heap.size F (some ⟨g, 0, none⟩) t7 w7 := by rw [ht7]; exact WTo.after H6.out.1 H6.out.2.1 hw7
   have hl7 : t7.length + (o.e.flatMap putE).length <= 4000000 := by rw [ht7, kN, x04]; omega
   have hb7 := WTo.bel HB.out.1 HB.out.2 hw7'
   obtain ⟨c0, c1', c2''⟩ := HC.out w7 hb7
   have HW7 := kH (kA hw7' (kA hb7 ht7))
   clear hw7 hw7' ht7 hb7 HT6 c0 c1'
   go_wp2_with fail
   go_loopw [62] (fun iv wr => ∃ k : Nat, k <= o.e.length /\ iv = .int .i64 k /\ WTo w w0.heap.size F (some ⟨g, 0, none⟩) (t7 ++ (o.e.take k).flatMap putE) wr) (fun iv _ => o.e.length - (intS iv).toNat)
   case atStart => exact ⟨0, by omega, rfl, by simpa using HW7.out.1⟩
   case round =>
    obtain ⟨k, hk, rfl, hwt⟩ := hrel
    obtain ⟨wq, hwq⟩ := kX wr
    subst hwq
    have hwk := wK k (by omega)
    by_cases hlt : k < o.e.length
    -- {E
    ·obtain ⟨ex, ey, hpe⟩ : ∃ ex ey, o.e[k]? = some (ex, ey) := ⟨_, _, List.getElem?_eq_getElem hlt⟩
     obtain ⟨hft, post, hfp⟩ := x7R putE hpe
     have hbq := WTo.bel HB.out.1 HB.out.2 hwt
     obtain ⟨ad3, rfl, hab3, a0, a1⟩ := xP2 (HA.out.below hbq).ext hpe
     obtain ⟨F7, hW7, ho7, hf7⟩ := hwt
     obtain ⟨tk, htk⟩ := kX (t7 ++ (o.e.take k).flatMap putE)
     rw [<- htk] at hW7
     have hlk : tk.length + 16 <= 4000000 := by
      have h1 := hl7
      rw [hfp] at h1
      rw [htk]
      simp only [kN, putE, x04] at h1 ⊢
      omega
     obtain ⟨wB, hwB⟩ := kX (wq.alloc (.cells #[.int .i64 (ex : Int), .int .i64 (ey : Int)] 198))
     obtain ⟨gB, hgB⟩ := kX wq.heap.size
     have hbB : Below wq.heap.size wq wB := by rw [hwB]; exact x05 _ _
     have KB : Blk wB gB 198 #[.int .i64 (ex : Int), .int .i64 (ey : Int)] := by rw [hwB, hgB]; exact kW _ _ _
     have hgBF : gB ∉ F7 := fun hm => by have := hW7.under _ hm; omega
     have hsq := hbq.size
     have hsB := hbB.size
     have HT8 := kH (x1G wB w0.heap.size F7 (some ⟨g, 0, none⟩) tk ex (hW7.below hbB) (by omega) (by omega))
     have k0 : wB.cell? ⟨gB, 0, none⟩ = some (.int .i64 (ex : Int)) := KB.cell 0
     have hgl := KB.lt
     have HWB := kH hwB
     have HGB := kH hgB
     have HQ := kH (kA ho7 (kA hf7 (kA hbB (kA KB (kA hgBF (kA hft htk))))))
     clear hpe hft hfp hbq hW7 ho7 hf7 hbB KB hgBF hwB hgB htk
     go_wp2_with (have _h := a0; refine x29 rfl (.tmp 64) rfl _ rfl (((ex : Int), (ey : Int))) a0 a1 ?_; clear _h a0 a1)
     rw [<- HWB.out, <- HGB.out]
     refine HT8.out.mono ?_
     rintro e w8 ⟨rfl, F8, hW8, ho8, hf8⟩
     have hW8' : Wr w8 w0.heap.size F8 (some ⟨g, 0, none⟩) (tk ++ numB ex) := hW8
     have k1 : w8.cell? ⟨gB, 1, none⟩ = some (.int .i64 (ey : Int)) := (HQ.out.2.2.2.1.of (ho8.block _ hgl HQ.out.2.2.2.2.1)).cell 1
     have hs8 := ho8.size
     have hgl8 : gB < w8.heap.size := by omega
     have HT9 := kH (x1G w8 w0.heap.size F8 (some ⟨g, 0, none⟩) (tk ++ numB ex) ey hW8' (by rw [kN, x04]; omega) (by omega))
     have H8 := kH (kA ho8 hf8)
     clear hW8 hW8' HT8 ho8 hf8 k0
     go_wp2_with fail
     refine HT9.out.mono ?_
     rintro e w9 ⟨rfl, hw9⟩
     have hfin := WTo.after HQ.out.1 HQ.out.2.1 (WTo.since HQ.out.2.2.1 (WTo.after H8.out.1 H8.out.2 hw9))
     have htx : plus (some ⟨g, 0, none⟩) (tk ++ numB ex) (numB ey) = t7 ++ (o.e.take (k + 1)).flatMap putE := by
      rw [HQ.out.2.2.2.2.2.1, HQ.out.2.2.2.2.2.2]
      show t7 ++ (o.e.take k).flatMap putE ++ numB ex ++ numB ey = _
      simp [putE]
     rw [htx] at hfin
     have HFIN := kH hfin
     clear hfin htx hw9 HT9
     go_wp2_with fail
     go_roundw
     case rel => exact ⟨k + 1, by omega, by go_num, HFIN.out⟩
     case measure => simp [intS]; omega
    -- E}
    ·obtain rfl : k = o.e.length := by omega
     rw [take_length] at hwt
     have HFIN := kH hwt
     clear hwt
     go_wp2
     refine kZ (results_none rfl _ _ _) rfl ?_
     refine ⟨rfl, ?_⟩
     have h1 := HFIN.out
     rw [HW7.out.2.2, H6.out.2.2.2.2, H4.out.2.2.2.2.2.2.1, H2.out.2.2.2.2.1, HT1E.out, H4.out.2.2.2.2.2.2.2] at h1
     simpa [sttxB] using h1
def flB (bl : List Bool) : LN := bl.map fun f => if f then 1 else 0
def putK (M : Mod) (k : Key) : LN := match gget M.ob k with | some o => putO (keyL k) o | none => []
def putM (M : Mod) : LN := numB M.fl.length ++ (flB M.bl ++ (numB M.ob.length ++ (srt (M.ob.map (·.1))).flatMap (putK M)))
theorem x9J {P : Program} (t e : TypeId) (cs : List Value) (j : Nat) (v : Value) (h : P.underlying t = some (.array 8 e)) (hi : (P.info? e).map (·.size) = some 1) (ha : ∀ w, (isAgg e).run P w = .ok false w) (hj : j < 8) (hv : cs[j]? = some v) (w : World) :
  (Instr.index t (.agg cs.toArray) (.int .i64 j)).run P w = .ok v w := by
 cases hq : P.info? e with
 | none => simp [hq] at hi
 | some i =>
  simp [hq] at hi
  have h6 : (j : Int) < 8 := by omega
  simp [Instr.index, run_underlying h, asIntOf, h6, hj, ha, Result.andThen, sizeOf, typeInfo, hq, hi, hv, go_sem]
theorem x8A {rest : List Oper} (hgd : op.guard = none) (x : Operand) (ho : op.op = .load 119 x)
 (p : Addr) (hx : a.eval x = .pointer (some p)) (cs : List Value) (hl : cs.length = 8) (hc : ∀ j v, cs[j]? = some v -> w.cell? (p.add j) = some v)
 (h : wpList prog ops Q rest (a.put op.dst (.agg cs.toArray)) w) : wpList prog ops Q (op :: rest) a w :=
 wpList_plain hgd fun _ hK => by
  unfold Oper.wp execOp
  simp only [ho, hx, Instr.loadAt, Instr.sureAddr, Sem.run_bind, Sem.run_pure, kS, x3P w p cs hl hc]
  exact hK _ _ h
theorem StAt.flags_at (h : StAt w gs ms gp r c A bl fl kv) : ∀ j v, (bl.map Value.bool)[j]? = some v -> w.cell? ((⟨gs, 1, none⟩ : Addr).add j) = some v := fun j v hj => by
 have e : (⟨gs, 1, none⟩ : Addr).add j = ⟨gs, 1 + j, none⟩ := by simp [Addr.add]
 rw [e]
 rw [List.getElem?_map] at hj
 cases hb : bl[j]? with
 | none => rw [hb] at hj; cases hj
 | some b =>
  rw [hb] at hj
  simp at hj
  subst hj
  exact h.cb hb
theorem xGF (h : StoreAt w Z gs ms gp r c A M kv) (hI : InvP n M) (hn : n <= 1000000) (hlen : (putM M).length <= 3000000) :
  Calls prog 16 #[.pointer (some ⟨gs, 0, none⟩)] w fun e w' => ∃ v, e = .returned v /\ Own w' w.heap.size v (putM M).length (putM M) /\ Below w.heap.size w w' /\ Small (putM M) := by
 have HL : Hid ((putM M).length = 8 + (M.bl.length + (8 + ((srt (M.ob.map (·.1))).flatMap (putK M)).length))) := kH (by unfold putM; simp only [kN, x04, flB, length_map])
 have HH := kH (kA h (kA hI hlen))
 have hkl : kv.length = M.ob.length := h.obs.len
 have hfew := hI.few
 have HKV := kH hkl
 obtain ⟨g, hg⟩ := kX w.heap.size
 obtain ⟨w1, hw1⟩ := kX (w.alloc (.cells #[.slice none 0 0] 117))
 have hb1 : Below w.heap.size w w1 := by rw [hw1]; exact x05 _ _
 have K1 : Blk w1 g 117 #[.slice none 0 0] := by rw [hw1, hg]; exact kW _ _ _
 have hW1 : Wr w1 w.heap.size [g] (some ⟨g, 0, none⟩) [] := .inr ⟨g, rfl, .slice none 0 0, by simp [rowOf, Value.ownBlock], K1, ⟨rfl, .inl ⟨rfl, rfl⟩⟩, by omega, fun b hb => by cases hb⟩
 have c9 := (h.st.below hb1).c9
 have HG := kH hg
 have HW1E := kH hw1
 have HS1 := kH (x4K (h.st.below hb1).sp.blk)
 have HN1 := kH (x1G w1 w.heap.size [g] (some ⟨g, 0, none⟩) [] M.fl.length hW1 (by simp) hb1.size)
 have H1 := kH (kA hb1 hW1)
 have hk1 := K1.lt
 clear h hI hlen hkl hg hw1 hb1 K1 hW1
 go_enter func16, ntmps16
 go_wp2_with (first | rw [<- HW1E.out, <- HG.out])
 refine HS1.out.mono ?_
 rintro e w' ⟨rfl, rfl⟩
 go_wp2_with fail
 refine HN1.out.mono ?_
 rintro e w2 ⟨rfl, hw2⟩
 obtain ⟨t2, ht2⟩ := kX (numB M.fl.length)
 have hw2' : WTo w1 w.heap.size [g] (some ⟨g, 0, none⟩) t2 w2 := by rw [ht2]; exact hw2
 have hl2 : t2.length = 8 := by rw [ht2, x04]
 have hb2 := WTo.bel H1.out.1 H1.out.2 hw2'
 have hfa := (HH.out.1.st.below hb2).flags_at
 have hbl : M.bl.length = 8 := HH.out.1.st.len
 have HBL := kH hbl
 obtain ⟨BV, hBV⟩ := kX (M.bl.map Value.bool)
 rw [<- hBV] at hfa
 have hBVl : BV.length = 8 := by rw [hBV, length_map]; exact hbl
 have HBV := kH (kA hBV hBVl)
 have H2 := kH (kA hw2' (kA hb2 (kA ht2 hl2)))
 clear hw2 hw2' hb2 ht2 hl2 HN1 HS1 c9 hk1 hbl hBV hBVl
 go_wp2_with (have _h := hfa; refine x8A rfl (.tmp 21) rfl _ rfl BV HBV.out.2 hfa ?_; clear _h hfa)
 go_loopw [23] (fun iv wr => ∃ k : Nat, k <= 8 /\ iv = .int .i64 k /\ WTo w1 w.heap.size [g] (some ⟨g, 0, none⟩) (t2 ++ (flB M.bl).take k) wr) (fun iv _ => 8 - (intS iv).toNat)
 case atStart => exact ⟨0, by omega, rfl, by simpa using H2.out.1⟩
 case round =>
  obtain ⟨k, hk, rfl, hwt⟩ := hrel
  obtain ⟨wq, hwq⟩ := kX wr
  subst hwq
  have hwk := wK k (by omega)
  by_cases hlt : k < 8
  -- {F
  ·obtain ⟨b, hb⟩ : ∃ b, M.bl[k]? = some b := ⟨_, List.getElem?_eq_getElem (by rw [HBL.out]; exact hlt)⟩
   have hix := x9J (P := prog) 119 4 BV k (.bool b) underlying119 (by kernel_rfl) (fun w => by kernel_rfl) hlt (by rw [HBV.out.1, List.getElem?_map, hb]; rfl) wq
   have htk : (flB M.bl).take (k + 1) = (flB M.bl).take k ++ [if b then 1 else 0] := by
    unfold flB
    rw [take_add_one, List.getElem?_map, hb]
    rfl
   have hbq := WTo.bel H1.out.1 H1.out.2 hwt
   obtain ⟨F', hW', ho', hf'⟩ := hwt
   obtain ⟨tk, htk2⟩ := kX (t2 ++ (flB M.bl).take k)
   rw [<- htk2] at hW'
   have hl3 : tk.length <= 100 := by rw [htk2, kN, H2.out.2.2.2, length_take]; omega
   have HT := kH (xIY wq w.heap.size F' (some ⟨g, 0, none⟩) tk b hW' (by omega) hbq.size)
   have HQ := kH (kA ho' (kA hf' (kA htk htk2)))
   clear hb htk hbq hW' ho' hf' htk2
   go_wp2_with fail
   refine HT.out.mono ?_
   rintro e w3 ⟨rfl, hw3⟩
   have hfin := WTo.after HQ.out.1 HQ.out.2.1 hw3
   have htx : plus (some ⟨g, 0, none⟩) tk [if b then 1 else 0] = t2 ++ (flB M.bl).take (k + 1) := by
    rw [HQ.out.2.2.1, HQ.out.2.2.2]
    show t2 ++ (flB M.bl).take k ++ _ = _
    rw [append_assoc]
   rw [htx] at hfin
   have HFIN := kH hfin
   clear hfin htx hw3 HT
   go_wp2_with fail
   go_roundw
   case rel => exact ⟨k + 1, by omega, by go_num, HFIN.out⟩
   case measure => simp [intS]; omega
  -- F}
  ·obtain rfl : k = 8 := by omega
   have hfl8 : (flB M.bl).length = 8 := by unfold flB; rw [length_map]; exact HBL.out
   rw [take_of_length_le (by omega)] at hwt
   have hbq := WTo.bel H1.out.1 H1.out.2 hwt
   have c0 := (HH.out.1.st.below hbq).c0
   have hml : ∀ ty, (Builtin.len_ #[118] ty #[.map (some ms)]).run prog wq = .ok (.int .i64 M.ob.length) wq := fun ty => by
    have := World.ownsMap.len (HH.out.1.st.below hbq).map.owns (t := 118) underlying118 ty
    rw [x3B, HKV.out] at this
    exact this
   obtain ⟨F3, hW3, ho3, hf3⟩ := hwt
   obtain ⟨t3, ht3⟩ := kX (t2 ++ flB M.bl)
   rw [<- ht3] at hW3
   have hl3 : t3.length = 16 := by rw [ht3, kN, H2.out.2.2.2, hfl8]
   have HT3 := kH (x1G wq w.heap.size F3 (some ⟨g, 0, none⟩) t3 M.ob.length hW3 (by omega) hbq.size)
   have H3 := kH (kA ho3 (kA hf3 (kA ht3 hl3)))
   clear hbq hW3 ho3 hf3 ht3 hl3 hfl8
   go_wp2_with fail
   refine HT3.out.mono ?_
   rintro e w4 ⟨rfl, hw4⟩
   obtain ⟨t4, ht4⟩ := kX (t3 ++ numB M.ob.length)
   have hw4' : WTo w1 w.heap.size [g] (some ⟨g, 0, none⟩) t4 w4 := by rw [ht4]; exact WTo.after H3.out.1 H3.out.2.1 hw4
   have hl4 : t4.length = 24 := by rw [ht4, kN, x04, H3.out.2.2.2]
   have hb4 := WTo.bel H1.out.1 H1.out.2 hw4'
   have HN := kH (xL4 (HH.out.1.below hb4).st (by rw [HKV.out]; omega))
   rw [show noS = { data := #[] } from by kernel_rfl] at HN
   have H4 := kH (kA hw4' (kA hb4 (kA ht4 hl4)))
   clear hw4 hw4' hb4 ht4 hl4 HT3 c0 hml
   go_wp2_with fail
   refine HN.out.mono ?_
   rintro e w5 ⟨vn, ns, rfl, hnp, hns, hrow, hb45⟩
   obtain ⟨An, cn, rfl, hcn, -⟩ := hrow.form
   obtain ⟨F4, hW4, ho4, hf4⟩ := H4.out.1
   have hnsq : ns = srt (M.ob.map (·.1)) := by
    rw [<- HH.out.1.obs.keys ObjR.key]
    exact xDO hnp hns
   have hu4 := hW4.under
   have hW5 := hW4.below hb45
   have ho5 : Only [g] w1 w5 := ho4.trans (kO hb45 F4) hf4
   have hnl : ns.length <= 1000000 := by rw [hnp.length_eq, length_map, HKV.out]; omega
   have hl5 : t4.length + (ns.flatMap (putK M)).length <= 3000000 := by
    have h1 := HL.out
    have h2 := HH.out.2.2
    have h3 := HBL.out
    have h4 := H4.out.2.2.2
    rw [<- hnsq] at h1
    omega
   have hs5 := hb45.size
   have H5 := kH (kA hW5 (kA ho5 (kA hf4 (kA hu4 (kA hrow (kA hnsq (kA hl5 hnp)))))))
   clear hW5 ho5 hf4 hu4 hrow hnsq hl5 hnp hns hW4 ho4 hb45 HN
   go_wp2_with fail
   go_loopw [40] (fun iv wr => ∃ k : Nat, k <= ns.length /\ iv = .int .i64 k /\ WTo w5 w.heap.size F4 (some ⟨g, 0, none⟩) (t4 ++ (ns.take k).flatMap (putK M)) wr) (fun iv _ => ns.length - (intS iv).toNat)
   case atStart => exact ⟨0, by omega, rfl, F4, by simpa using H5.out.1, kU _ _, kF _ _⟩
   case round =>
    obtain ⟨k, hk, rfl, F', hW', ho', hf'⟩ := hrel
    obtain ⟨wp, hwp⟩ := kX wr
    subst hwp
    have hwk := wK k (by omega)
    by_cases hlt : k < ns.length
    -- {N
    ·obtain ⟨kq, hkq⟩ : ∃ kq, ns[k]? = some kq := ⟨_, List.getElem?_eq_getElem hlt⟩
     obtain ⟨o, nm, hgo, hknm, hname⟩ := xFV HH.out.2.1 HH.out.1.obs H5.out.2.2.2.2.2.2.2 (mem_of_getElem? hkq)
     have hnml : (keyL kq).length <= 32 := by
      rw [x98, hknm, x9C]
      simp only [isNameB, Bool.and_eq_true, decide_eq_true_eq] at hname
      omega
     obtain ⟨hft, post, hfp⟩ := x7R (putK M) hkq
     have hover := x0G H5.out.2.2.2.2.1
     have hrowq : NamR wp w4.heap.size (.slice An ns.length cn) ns := x13 H5.out.2.2.2.2.1 ho' (fun j hj hm => by have := hover j hj; have := H5.out.2.2.2.1 j hm; omega)
     obtain ⟨ad, u2, rfl, hab, hu2, hc2⟩ := hrowq.reads.at_ hlt
     have hu2' : u2 = .string (strOf (keyL kq)) := by
      rw [List.getElem?_map, hkq, Option.map_some] at hu2
      injection hu2 with hu2
      rw [<- hu2, xK8]
     subst hu2'
     have hpk : putK M kq = putO (keyL kq) o := by unfold putK; rw [hgo]
     obtain ⟨tk, htk⟩ := kX (t4 ++ (ns.take k).flatMap (putK M))
     rw [<- htk] at hW'
     have hlk : tk.length + (putO (keyL kq) o).length <= 4000000 := by
      have h1 := H5.out.2.2.2.2.2.2.1
      rw [hfp, hpk] at h1
      rw [htk]
      simp only [kN] at h1 ⊢
      omega
     have hwt0 : WTo w1 w.heap.size [g] (some ⟨g, 0, none⟩) tk wp := WTo.after H5.out.2.1 H5.out.2.2.1 ⟨F', hW', ho', hf'⟩
     have hbp := WTo.bel H1.out.1 H1.out.2 hwt0
     obtain ⟨ha1, ha2, ha3⟩ := xHZ HH.out.2.1 hgo hn
     have hod := (HH.out.2.1.obs _ (x1S hgo)).d
     have HP := kH (xPL HH.out.1 hbp hW' (keyL kq) (xAC kq) (by omega) (o := o) (by rw [x5T]; exact hgo) hod ha1 ha2 ha3 hlk)
     have HQ := kH (kA ho' (kA hf' (kA hft (kA hpk htk))))
     clear hkq hgo hknm hname hnml hft hfp hover hrowq hu2 hpk hlk hwt0 hbp ha1 ha2 ha3 hod hW' ho' hf' htk
     go_wp2_with fail
     refine HP.out.mono ?_
     rintro e w6 ⟨rfl, hw6⟩
     have hfin := WTo.after HQ.out.1 HQ.out.2.1 hw6
     have htx : tk ++ putO (keyL kq) o = t4 ++ (ns.take (k + 1)).flatMap (putK M) := by
      rw [HQ.out.2.2.1, HQ.out.2.2.2.1, HQ.out.2.2.2.2, append_assoc]
     rw [htx] at hfin
     have HFIN := kH hfin
     clear hfin htx hw6 HP
     go_wp2_with fail
     go_roundw
     case rel => exact ⟨k + 1, by omega, by go_num, HFIN.out⟩
     case measure => simp [intS]; omega
    -- N}
    ·obtain rfl : k = ns.length := by omega
     have hwt0 := WTo.after H5.out.2.1 H5.out.2.2.1 ⟨F', hW', ho', hf'⟩
     have hbp := WTo.bel H1.out.1 H1.out.2 hwt0
     rw [take_length] at hW'
     have htx : t4 ++ ns.flatMap (putK M) = putM M := by
      rw [H4.out.2.2.1, H3.out.2.2.1, H2.out.2.2.1, H5.out.2.2.2.2.2.1]
      unfold putM
      simp
     rw [htx] at hW'
     have hsmall : Small (putM M) := by
      rcases hW' with ⟨e, _⟩ | ⟨_, _, _, _, _, _, _, h⟩
      ·cases e
      ·exact h
     have HSM := kH hsmall
     have HO := kH (x58 wp w.heap.size F' (some ⟨g, 0, none⟩) (putM M) hW' (by have := HH.out.2.2; omega))
     have HBP := kH hbp
     clear hwt0 hbp hW' ho' hf' htx hsmall
     go_wp2_with fail
     refine HO.out.mono ?_
     rintro e w7 ⟨v, rfl, hov, hb7⟩
     have HV := kH (kA hov hb7)
     clear hov hb7 HO
     go_wp2
     go_ret
     exact ⟨v, rfl, x0B HV.out.1 HBP.out.size, HBP.out.trans (HV.out.2.mono HBP.out.size), HSM.out⟩
theorem xBM (h : StoreAt w Z gs ms gp r c A M kv) (hI : Inv n M) (hn : n <= 1000000) (hlen : (putM M).length <= 3000000) :
    Calls prog 16 #[.pointer (some ⟨gs, 0, none⟩)] w fun e w' => ∃ v, e = .returned v /\ Own w' w.heap.size v (putM M).length (putM M) /\ Below w.heap.size w w' /\ Small (putM M) := xGF h hI.p hn hlen
def aS (l : AL) : Nat := (l.map fun q => 16 + q.1.length + q.2.length).sum
theorem x5M {a b : LN} (h : a.Perm b) : a.sum = b.sum := h.sum_nat
theorem xPU {a b : AL} (h : a.Perm b) : aS a = aS b := x5M (h.map _)
theorem xAN (q : Key × LN) (l : AL) : aS (q :: l) = 16 + q.1.length + q.2.length + aS l := by simp [aS]
theorem xCZ (k : Key) : ∀ l : AL, aS (gdel k l) <= aS l
 | [] => kR _
 | q :: l => by
  have ih := xCZ k l
  unfold gdel at ih ⊢
  rw [filter_cons, xAN]
  split
  ·rw [xAN]; omega
  ·omega
theorem xQ7 (k : Key) (v : LN) (l : AL) : aS (gput k v l) <= 16 + k.length + v.length + aS l := by
 rw [xPU (x3I k v l), xAN]
 have := xCZ k l
 show 16 + k.length + v.length + aS (gdel k l) <= _
 omega
theorem xPO (h : Keys1 W.a) : Keys1 (stepW bl W x).1.a /\ aS (stepW bl W x).1.a <= aS W.a + 1100 := by
 have h0 : Keys1 W.a /\ aS W.a <= aS W.a + 1100 := ⟨h, Nat.le_add_right _ _⟩
 have hnil : Keys1 ([] : AL) /\ aS [] <= aS W.a + 1100 := ⟨nodup_nil, by simp [aS]⟩
 unfold stepW
 split
 ·exact h0
 split
 ·unfold becomeW
  split
  ·exact h0
  ·exact hnil
 split
 ·unfold becomeW
  split
  ·exact h0
  ·exact hnil
 split
 ·split
  ·unfold insideW
   split
   ·split
    ·rename_i hn
     simp only [Bool.and_eq_true, decide_eq_true_eq, isNameB] at hn
     refine ⟨h.put _ _, ?_⟩
     have := xQ7 (keyB x.nm) x.dt W.a
     rw [x9C] at this
     simp only
     omega
    ·exact h0
   split
   ·exact ⟨h.del _, by have := xCZ (keyB x.nm) W.a; simp only; omega⟩
   split
   ·split
    ·exact h0
    ·exact h0
   split
   ·exact h0
   split
   ·exact h0
   split
   ·exact h0
   split
   ·exact h0
   ·exact h0
  ·exact h0
 ·exact h0
theorem xLB : ∀ {xs : List StepV} {W : Wk}, Keys1 W.a -> Keys1 (runW bl W xs).1.a /\ aS (runW bl W xs).1.a <= aS W.a + 1100 * xs.length
 | [], W, h => ⟨h, by simp [runW]⟩
 | x :: xs, W, h => by
  obtain ⟨h1, h2⟩ := xPO (bl := bl) (x := x) h
  rw [x3L]
  split
  ·obtain ⟨h3, h4⟩ := xLB (xs := xs) h1
   refine ⟨h3, ?_⟩
   rw [length_cons]
   omega
  ·refine ⟨h1, ?_⟩
   rw [length_cons]
   omega
def totA (ob : List (Key × Ob)) : Nat := (ob.map fun p => aS p.2.a).sum
theorem xBR {a b : List (Key × Ob)} (h : a.Perm b) : totA a = totA b := x5M (h.map _)
theorem x6N (p : Key × Ob) (l : List (Key × Ob)) : totA (p :: l) = aS p.2.a + totA l := by simp [totA]
structure InvA (n : Nat) (M : Mod) : Prop where
 ak : ∀ p ∈ M.ob, Keys1 p.2.a
 tot : totA M.ob <= 1100 * n
theorem InvA.mono {m : Nat} (h : InvA n M) (hm : n <= m) : InvA m M := ⟨h.ak, kT h.tot (Nat.mul_le_mul_left _ hm)⟩
theorem invA0 (n : Nat) : InvA 0 (M0 n) := ⟨fun p hp => (by cases hp), kY _⟩
theorem xAY (hk : Keys1 M.ob) (h : InvA n M) (hd : DoR M nm xs M' k told) : InvA (n + 16) M' := by
 cases hd with
 | range => exact h.mono (by omega)
 | step => exact h.mono (by omega)
 | full => exact h.mono (by omega)
 | @done es fl _ _ h16 _ _ =>
  have hs : Keys1 (startW M (keyB nm)).a /\ totA M.ob = aS (startW M (keyB nm)).a + totA (gdel (keyB nm) M.ob) := by
   unfold startW
   cases hg : gget M.ob (keyB nm) with
   | none => exact ⟨nodup_nil, by rw [xBC hg]; simp [aS]⟩
   | some o => exact ⟨h.ak _ (x1S hg), by rw [xBR (xB9 hk hg), x6N]⟩
  obtain ⟨h1, h2⟩ := xLB (bl := M.bl) (xs := xs) hs.1
  generalize (runW M.bl (startW M (keyB nm)) xs).1 = W at *
  have ht := h.tot
  unfold endM
  cases hth : W.th with
  | true =>
   refine ⟨fun p hp => ?_, ?_⟩
   ·simp only [if_true] at hp
    rcases x2R hp with rfl | hp
    ·exact h1
    ·exact h.ak p hp
   ·simp only [if_true]
    rw [xBR (x3I _ _ _), x6N]
    simp only
    omega
  | false =>
   refine ⟨fun p hp => ?_, ?_⟩
   ·simp only [Bool.false_eq_true, if_false] at hp
    exact h.ak p (x2S _ _ _ hp)
   ·simp only [Bool.false_eq_true, if_false]
    omega
theorem x7M {α : Type} (f : α -> LN) (l : List α) : (l.flatMap f).length = (l.map fun x => (f x).length).sum := by
 induction l with
 | nil => rfl
 | cons a l ih => simp [ih]
theorem xO0 (a : AL) (h : Keys1 a) : ((atL a (srt (a.map (·.1)))).flatMap putA).length = aS a := by
 rw [x7M]
 unfold atL
 rw [map_map]
 have hp : (srt (a.map (·.1))).Perm (a.map (·.1)) := mergeSort_perm _ _
 rw [x5M (hp.map _), map_map]
 unfold aS
 congr 1
 refine map_congr_left fun q hq => ?_
 simp only [Function.comp_apply, h.get hq, Option.getD_some, putA, kN, x1F, x98]
 omega
theorem xM2 (e : List (Nat × Nat)) : (e.flatMap putE).length = 16 * e.length := by
 induction e with
 | nil => rfl
 | cons x e ih =>
  rw [flatMap_cons, kN, ih, length_cons]
  simp only [putE, kN, x04]
  omega
theorem xEC : ∀ (L : List (Key × Ob)), (∀ p ∈ L, p.1.length <= 32 /\ p.2.d.length <= 16 * lens p.2.e /\ p.2.e.length <= lens p.2.e) -> (L.map fun p => 32 + p.1.length + p.2.d.length + aS p.2.a + 16 * p.2.e.length).sum <= 64 * L.length + 32 * lens (exts L) + totA L
 | [], _ => by simp
 | p :: L, h => by
  have ih := xEC L (fun q hq => h q (by simp [hq]))
  obtain ⟨h1, h2, h3⟩ := h p (by simp)
  have e : exts (p :: L) = p.2.e ++ exts L := rfl
  rw [e, x90, x6N, map_cons, sum_cons, length_cons]
  omega
theorem xMH (h : Inv n M) (hA : InvA n M) : (putM M).length <= 24 + 1164 * n + 32 * M.fl.length := by
 have hlen : (putM M).length = 8 + (M.bl.length + (8 + ((srt (M.ob.map (·.1))).flatMap (putK M)).length)) := by unfold putM; simp only [kN, x04, flB, length_map]
 have hk : ((srt (M.ob.map (·.1))).flatMap (putK M)).length = (M.ob.map fun p => 32 + p.1.length + p.2.d.length + aS p.2.a + 16 * p.2.e.length).sum := by
  rw [x7M]
  have hp : (srt (M.ob.map (·.1))).Perm (M.ob.map (·.1)) := mergeSort_perm _ _
  rw [x5M (hp.map _), map_map]
  congr 1
  refine map_congr_left fun p hpm => ?_
  simp only [Function.comp_apply, putK, h.keys.get hpm, putO, kN, x1F, x04, xO0 _ (hA.ak p hpm), xM2, x98]
  omega
 have hs := xEC M.ob (fun p hpm => by
  have ho := h.obs p hpm
  obtain ⟨nm, e, hn⟩ := h.nms p hpm
  have hl := x2E (L := p.2.e) (fun e he => h.good.pos e (mem_flatMap.2 ⟨p, hpm, he⟩))
  have h1 := ho.e
  unfold needsB at h1
  refine ⟨?_, by omega, hl⟩
  rw [e, x9C]
  simp only [isNameB, Bool.and_eq_true, decide_eq_true_eq] at hn
  omega)
 have hc := x9G h.good
 have hf := h.few
 have ht := hA.tot
 have hb := h.bl
 rw [hlen, hk]
 omega
theorem x92 {f1 f2 : List Bool} {e1 e2 : List (Nat × Nat)} {k1 k2 : Nat} (h1 : FitR fl W e1 f1 k1) (h2 : FitR fl W e2 f2 k2) : e1 = e2 /\ f1 = f2 /\ k1 = k2 := by
 cases h1 with
 | give a =>
  cases h2 with
  | give _ => exact ⟨rfl, rfl, rfl⟩
  | full b _ => omega
  | take b _ _ => omega
 | full a b =>
  cases h2 with
  | give c => omega
  | full _ _ => exact ⟨rfl, rfl, rfl⟩
  | take _ d _ => omega
 | take a b c =>
  cases h2 with
  | give d => omega
  | full _ d => omega
  | take _ _ d =>
   have := c.one d
   subst this
   exact ⟨rfl, rfl, rfl⟩
theorem x2Z {M1 M2 : Mod} {k1 k2 : Nat} {t1 t2 : List LN} (h1 : DoR M nm xs M1 k1 t1) (h2 : DoR M nm xs M2 k2 t2) : M1 = M2 /\ k1 = k2 /\ t1 = t2 := by
 cases h1 with
 | range a =>
  cases h2 with
  | range _ => exact ⟨rfl, rfl, rfl⟩
  | step b c d _ => rcases a with a | a | a; (rw [a] at b; cases b); omega; omega
  | full b c d _ _ => rcases a with a | a | a; (rw [a] at b; cases b); omega; omega
  | done b c d _ _ => rcases a with a | a | a; (rw [a] at b; cases b); omega; omega
 | step b c d f =>
  cases h2 with
  | range a => rcases a with a | a | a; (rw [a] at b; cases b); omega; omega
  | step _ _ _ _ => exact ⟨rfl, rfl, rfl⟩
  | full _ _ _ g _ => exact absurd g f
  | done _ _ _ g _ => exact absurd g f
 | full b c d f g =>
  cases h2 with
  | range a => rcases a with a | a | a; (rw [a] at b; cases b); omega; omega
  | step _ _ _ i => exact absurd f i
  | full _ _ _ _ _ => exact ⟨rfl, rfl, rfl⟩
  | done _ _ _ _ i => exact absurd (x92 g i).2.2 (by decide)
 | done b c d f g =>
  cases h2 with
  | range a => rcases a with a | a | a; (rw [a] at b; cases b); omega; omega
  | step _ _ _ i => exact absurd f i
  | full _ _ _ _ i => exact absurd (x92 g i).2.2 (by decide)
  | done _ _ _ _ i =>
   obtain ⟨e1, e2, _⟩ := x92 g i
   subst e1 e2
   exact ⟨rfl, rfl, rfl⟩
def AOk (q : Key × LN) : Prop := (∃ nm, q.1 = keyB nm /\ isNameB nm = true) /\ q.2.length <= 1024
theorem xNJ (h : ∀ q ∈ W.a, AOk q) : ∀ q ∈ (stepW bl W x).1.a, AOk q := by
 have hnil : ∀ q ∈ ([] : AL), AOk q := fun q hq => by cases hq
 unfold stepW
 split
 ·exact h
 split
 ·unfold becomeW
  split
  ·exact h
  ·exact hnil
 split
 ·unfold becomeW
  split
  ·exact h
  ·exact hnil
 split
 ·split
  ·unfold insideW
   split
   ·split
    ·rename_i hn
     simp only [Bool.and_eq_true, decide_eq_true_eq] at hn
     intro q hq
     rcases x2R hq with rfl | hq
     ·exact ⟨⟨x.nm, rfl, hn.1⟩, hn.2⟩
     ·exact h q hq
    ·exact h
   split
   ·exact fun q hq => h q (x2S _ _ q hq)
   split
   ·split
    ·exact h
    ·exact h
   split
   ·exact h
   split
   ·exact h
   split
   ·exact h
   split
   ·exact h
   ·exact h
  ·exact h
 ·exact h
theorem xG5 : ∀ {xs : List StepV} {W : Wk}, (∀ q ∈ W.a, AOk q) -> ∀ q ∈ (runW bl W xs).1.a, AOk q
 | [], W, h => h
 | x :: xs, W, h => by
  have h1 := xNJ (bl := bl) (x := x) h
  rw [x3L]
  split
  ·exact xG5 h1
  ·exact h1
def InvN (M : Mod) : Prop := ∀ p ∈ M.ob, ∀ q ∈ p.2.a, AOk q
theorem xAM (h : InvN M) (hd : DoR M nm xs M' k told) : InvN M' := by
 cases hd with
 | range => exact h
 | step => exact h
 | full => exact h
 | @done es fl _ _ _ _ _ =>
  have hs : ∀ q ∈ (startW M (keyB nm)).a, AOk q := by
   unfold startW
   cases hg : gget M.ob (keyB nm) with
   | none => exact fun q hq => by cases hq
   | some o => exact h _ (x1S hg)
  have hr := xG5 (bl := M.bl) (xs := xs) hs
  generalize (runW M.bl (startW M (keyB nm)) xs).1 = W at *
  unfold endM
  cases hth : W.th with
  | true =>
   intro p hp
   simp only [if_true] at hp
   rcases x2R hp with rfl | hp
   ·exact hr
   ·exact h p hp
  | false =>
   intro p hp
   simp only [Bool.false_eq_true, if_false] at hp
   exact h p (x2S _ _ _ hp)
section
section
variable {V : Type}
def Rise (l : List (Key × V)) : Prop := l.Pairwise fun p q => bytesBefore p.1 q.1 = true
theorem Rise.del {l : List (Key × V)} (h : Rise l) (k : Key) : Rise (gdel k l) := List.Pairwise.sublist List.filter_sublist h
theorem Rise.ins {x : Key × V} : ∀ {l : List (Key × V)}, Rise l -> (∀ p ∈ l, p.1 ≠ x.1) -> Rise (gins x l)
 | [], _, _ => List.pairwise_singleton _ _
 | y :: r, h, hx => by
  obtain ⟨h1, h2⟩ := pairwise_cons.1 h
  rw [gins]
  cases hb : bytesBefore x.1 y.1 with
  | true =>
   simp only [if_true]
   refine pairwise_cons.2 ⟨fun q hq => ?_, h⟩
   rcases kQ hq with rfl | hq
   ·exact hb
   ·exact WideShapes.bytes_trans _ _ _ hb (h1 q hq)
  | false =>
   simp only [Bool.false_eq_true, if_false]
   have hyx : bytesBefore y.1 x.1 = true := by
    rcases WideAt.bytes_total x.1 y.1 (fun e => hx y (by simp) e.symm) with h3 | h3
    ·rw [hb] at h3; cases h3
    ·exact h3
   refine pairwise_cons.2 ⟨fun q hq => ?_, Rise.ins h2 fun p hp => hx p (by simp [hp])⟩
   rcases kQ ((x76 x r).mem_iff.1 hq) with rfl | hq
   ·exact hyx
   ·exact h1 q hq
theorem Rise.put {l : List (Key × V)} (h : Rise l) (k : Key) (v : V) : Rise (gput k v l) := (h.del k).ins fun p hp => (x70 k l p hp).1
end
def RiseM (M : Mod) : Prop := Rise M.ob /\ ∀ p ∈ M.ob, Rise p.2.a
theorem xLA (h : Rise W.a) : Rise (stepW bl W x).1.a := by
 have hnil : Rise ([] : AL) := List.Pairwise.nil
 unfold stepW
 split
 ·exact h
 split
 ·unfold becomeW
  split
  ·exact h
  ·exact hnil
 split
 ·unfold becomeW
  split
  ·exact h
  ·exact hnil
 split
 ·split
  ·unfold insideW
   split
   ·split
    ·exact h.put _ _
    ·exact h
   split
   ·exact h.del _
   split
   ·split
    ·exact h
    ·exact h
   split
   ·exact h
   split
   ·exact h
   split
   ·exact h
   split
   ·exact h
   ·exact h
  ·exact h
 ·exact h
theorem xCO : ∀ {xs : List StepV} {W : Wk}, Rise W.a -> Rise (runW bl W xs).1.a
 | [], W, h => h
 | x :: xs, W, h => by
  have h1 := xLA (bl := bl) (x := x) h
  rw [x3L]
  split
  ·exact xCO h1
  ·exact h1
theorem xAU (h : RiseM M) (hd : DoR M nm xs M' k told) : RiseM M' := by
 cases hd with
 | range => exact h
 | step => exact h
 | full => exact h
 | @done es fl _ _ _ _ _ =>
  have hs : Rise (startW M (keyB nm)).a := by
   unfold startW
   cases hg : gget M.ob (keyB nm) with
   | none => exact List.Pairwise.nil
   | some o => exact h.2 _ (x1S hg)
  have hr := xCO (bl := M.bl) (xs := xs) hs
  generalize (runW M.bl (startW M (keyB nm)) xs).1 = W at *
  unfold endM
  cases hth : W.th with
  | true =>
   refine ⟨?_, fun p hp => ?_⟩
   ·simp only [if_true]
    exact h.1.put _ _
   ·simp only [if_true] at hp
    rcases x2R hp with rfl | hp
    ·exact hr
    ·exact h.2 p hp
  | false =>
   refine ⟨?_, fun p hp => ?_⟩
   ·simp only [Bool.false_eq_true, if_false]
    exact h.1.del _
   ·simp only [Bool.false_eq_true, if_false] at hp
    exact h.2 p (x2S _ _ _ hp)
end
section
open Go.RowKit Go.BigFrame Go.Shelf Go.Sort Go.Maps Go.WideElems
def tkM (bs : LN) : Option Mod := (tkP bs).bind fun M => if putM M = bs then some M else none
theorem xCR (h : tkP bs = some M) (h2 : putM M = bs) : tkM bs = some M := by
 unfold tkM
 rw [h, Option.bind_some, if_pos h2]
theorem xQ5 (h : tkP bs = some M) (h2 : putM M ≠ bs) : tkM bs = none := by
 unfold tkM
 rw [h, Option.bind_some, if_neg h2]
theorem xD3 (h : tkP bs = none) : tkM bs = none := by
 unfold tkM
 rw [h, Option.bind_none]
theorem x7V (a rest : LN) : (⟨a ++ rest, false⟩ : RD).take a.length = ⟨rest, false⟩ /\ (⟨a ++ rest, false⟩ : RD).got a.length = a := by
 have h := RD.take_fit (s := ⟨a ++ rest, false⟩) (k := a.length) rfl (by simp)
 refine ⟨h.1.trans ?_, h.2.trans ?_⟩
 ·simp
 ·simp
theorem x73 (n : Int) (h1 : -9223372036854775808 <= n) (h2 : n <= 9223372036854775807) (rest : LN) : (⟨numB n ++ rest, false⟩ : RD).num = n /\ (⟨numB n ++ rest, false⟩ : RD).take 8 = ⟨rest, false⟩ := by
 have h := x7V (numB n) rest
 rw [x04] at h
 refine ⟨?_, h.1⟩
 unfold RD.num
 have h3 : (⟨numB n ++ rest, false⟩ : RD).got ((8 : Nat) : Int) = (⟨numB n ++ rest, false⟩ : RD).got 8 := rfl
 rw [<- h3, h.2]
 exact x3X n h1 h2
theorem x45 (n : Nat) (h : n <= 9000000) (rest : LN) : (⟨numB (n : Int) ++ rest, false⟩ : RD).num = n /\ (⟨numB (n : Int) ++ rest, false⟩ : RD).take 8 = ⟨rest, false⟩ := x73 n (by omega) (by omega) rest
theorem x5Z (bs : LN) (h : bs.length <= 9000000) (rest : LN) : (⟨sttxB bs ++ rest, false⟩ : RD).bytes = bs /\ (⟨sttxB bs ++ rest, false⟩ : RD).bytesTo = ⟨rest, false⟩ := by
 have h1 := x45 bs.length h (bs ++ rest)
 have h2 := x7V bs rest
 unfold RD.bytes RD.bytesTo sttxB
 rw [append_assoc, h1.1, h1.2]
 exact ⟨h2.2, h2.1⟩
theorem xGP (f : Bool) (rest : LN) : (⟨(if f then 1 else 0) :: rest, false⟩ : RD).flag = f /\ (⟨(if f then 1 else 0) :: rest, false⟩ : RD).flagTo = ⟨rest, false⟩ := by
 have h := x7V [if f then 1 else 0] rest
 have hb : (⟨(if f then 1 else 0) :: rest, false⟩ : RD).byte = if f then 1 else 0 := by
  unfold RD.byte
  have : (⟨(if f then 1 else 0) :: rest, false⟩ : RD).got 1 = [if f then 1 else 0] := h.2
  rw [this]
  rfl
 refine ⟨?_, ?_⟩
 ·unfold RD.flag
  rw [hb]
  cases f <;> rfl
 ·unfold RD.flagTo
  rw [hb, if_neg (by cases f <;> simp)]
  exact h.1
theorem xIJ (bl : List Bool) (h : bl.length = 8) (rest : LN) : ∀ k, k <= 8 -> flS ⟨flB bl ++ rest, false⟩ k = (⟨(flB bl).drop k ++ rest, false⟩, bl.take k ++ List.replicate (8 - k) false)
 | 0, _ => rfl
 | k + 1, hk => by
  have ih := xIJ bl h rest k (by omega)
  have hl : k < bl.length := by omega
  have hd : (flB bl).drop k = (if bl[k] then 1 else 0) :: (flB bl).drop (k + 1) := by
   have hl2 : k < (flB bl).length := by unfold flB; rw [length_map]; exact hl
   rw [drop_eq_getElem_cons hl2]
   congr 1
   simp [flB]
  have hr : List.replicate (8 - k) false = false :: List.replicate (8 - (k + 1)) false := by
   rw [show 8 - k = (8 - (k + 1)) + 1 by omega]
   rfl
  rw [flS, ih]
  simp only
  rw [hd, cons_append, (xGP _ _).1, (xGP _ _).2, hr, set_append_right _ _ (by rw [length_take]; omega), length_take, Nat.min_eq_left (by omega), Nat.sub_self, List.set_cons_zero, List.take_succ_eq_append_getElem hl, append_assoc]
  rfl
theorem xPE (bl : List Bool) (h : bl.length = 8) (rest : LN) : flS ⟨flB bl ++ rest, false⟩ 8 = (⟨rest, false⟩, bl) := by
 have h8 := xIJ bl h rest 8 (kR _)
 rw [h8, drop_of_length_le (by unfold flB; rw [length_map]; omega), take_of_length_le (by omega)]
 simp
theorem xED {V : Type} {k : Key} {v : V} : ∀ {l r : List (Key × V)}, Rise (l ++ (k, v) :: r) -> gput k v l = l ++ [(k, v)] := by
 intro l r h
 have hb : ∀ p ∈ l, bytesBefore p.1 k = true := fun p hp => (pairwise_append.1 h).2.2 p hp (k, v) (by simp)
 have hne : ∀ p ∈ l, p.1 ≠ k := fun p hp e => by
  have := hb p hp
  rw [e, WideAt.bytes_irrefl] at this
  cases this
 have hd : gdel k l = l := filter_eq_self.2 fun p hp => by simpa using hne p hp
 unfold gput
 rw [hd]
 clear hd hne h
 induction l with
 | nil => rfl
 | cons y l ih =>
  have hy := hb y (by simp)
  have hn : bytesBefore k y.1 = false := by
   cases hc : bytesBefore k y.1 with
   | false => rfl
   | true =>
    have := WideShapes.bytes_trans _ _ _ hy hc
    rw [WideAt.bytes_irrefl] at this
    cases this
  rw [gins, hn]
  simp only [Bool.false_eq_true, if_false, cons_append]
  rw [ih fun p hp => hb p (by simp [hp])]
theorem xBL : ∀ {a b : List UInt8}, bytesBefore a b = true -> a < b
 | [], [], h => by cases h
 | [], _ :: _, _ => List.nil_lt_cons _ _
 | _ :: _, [], h => by cases h
 | x :: r, y :: s, h => by
  simp only [bytesBefore, Bool.or_eq_true, decide_eq_true_eq, Bool.and_eq_true, beq_iff_eq] at h
  rw [List.cons_lt_cons_iff]
  rcases h with h | ⟨h, h2⟩
  ·exact .inl h
  ·exact .inr ⟨h, xBL h2⟩
theorem xDU {V : Type} {l : List (Key × V)} (h : Rise l) : srt (l.map (·.1)) = l.map (·.1) :=
 (xDO (List.Perm.refl _) (by
  rw [List.pairwise_map]
  refine h.imp fun {p q} hb => ?_
  simp only [leB, decide_eq_true_eq]
  exact List.le_of_lt (xBL hb))).symm
theorem xJR (h : isNameB bs = true) : ∀ b ∈ bs, b < 256 := fun b hb => by
 simp only [isNameB, Bool.and_eq_true, all_eq_true] at h
 have := h.2 b hb
 simp only [okChar, Bool.and_eq_true, decide_eq_true_eq] at this
 omega
theorem xQ8 (h : ∀ b ∈ nm, b < 256) : keyL (keyB nm) = nm := by
 unfold keyL keyB
 rw [map_map]
 conv => rhs; rw [<- map_id nm]
 refine map_congr_left fun b hb => ?_
 have := h b hb
 simp only [Function.comp_apply, id, UInt8.toNat_ofNat']
 omega
theorem xKA {k : Key} (h : ∃ nm, k = keyB nm /\ isNameB nm = true) : isNameB (keyL k) = true /\ (keyL k).length <= 32 := by
 obtain ⟨nm, rfl, hn⟩ := h
 rw [xQ8 (xJR hn)]
 exact ⟨hn, (x95 hn).2⟩
theorem xMC {a : AL} (h : Rise a) (hk : Keys1 a) : atL a (srt (a.map (·.1))) = a := by
 rw [xDU h]
 unfold atL
 rw [map_map]
 conv => rhs; rw [<- map_id a]
 refine map_congr_left fun q hq => ?_
 simp only [Function.comp_apply, hk.get hq, Option.getD_some, id]
theorem Rise.keys {V : Type} {l : List (Key × V)} (h : Rise l) : Keys1 l := by
 unfold Keys1
 rw [List.Nodup, List.pairwise_map]
 refine h.imp fun {p q} hb e => ?_
 rw [e, WideAt.bytes_irrefl] at hb
 cases hb
theorem xGL : ∀ (l acc : AL) (rest : LN), Rise (acc ++ l) -> (∀ q ∈ l, AOk q) -> tkA l.length ⟨l.flatMap putA ++ rest, false⟩ acc = some (acc ++ l, ⟨rest, false⟩)
 | [], acc, rest, _, _ => by simp [tkA]
 | q :: l, acc, rest, h, hok => by
  obtain ⟨hn, hv⟩ := hok q (by simp)
  obtain ⟨hn1, hn2⟩ := xKA hn
  have h1 := x5Z (keyL q.1) (by omega) (sttxB q.2 ++ (l.flatMap putA ++ rest))
  have h2 := x5Z q.2 (by omega) (l.flatMap putA ++ rest)
  have e : (q :: l).flatMap putA ++ rest = sttxB (keyL q.1) ++ (sttxB q.2 ++ (l.flatMap putA ++ rest)) := by
   rw [flatMap_cons]
   simp [putA]
  rw [e, length_cons, tkA, h1.1, h1.2, h2.1, h2.2, if_pos ⟨hn1, hv⟩, x5T, xED (k := q.1) (v := q.2) h]
  have := xGL l (acc ++ [q]) rest (by simpa using h) (fun p hp => hok p (by simp [hp]))
  rw [this]
  simp
theorem xGJ : ∀ (l acc : List (Nat × Nat)) (fl : List Bool) (rest : LN), OkA fl l false -> (∀ e ∈ l, 1 <= e.2) -> fl.length <= 65536 -> tkE l.length ⟨l.flatMap putE ++ rest, false⟩ fl acc = some (acc ++ l, setA fl l false, ⟨rest, false⟩)
 | [], acc, fl, rest, _, _, _ => by simp [tkE, setA]
 | e :: l, acc, fl, rest, h, hp, hl => by
  have hin := h.1.1
  have hpe := hp e (by simp)
  have h1 := x45 e.1 (by omega) (numB e.2 ++ (l.flatMap putE ++ rest))
  have h2 := x45 e.2 (by omega) (l.flatMap putE ++ rest)
  have e0 : (e :: l).flatMap putE ++ rest = numB e.1 ++ (numB e.2 ++ (l.flatMap putE ++ rest)) := by
   rw [flatMap_cons]
   simp [putE]
  have hf : freeB fl (e.1 : Int) (e.2 : Int) = true := x4P.2 ⟨e.1, e.2, rfl, rfl, hpe, h.1⟩
  rw [e0, length_cons, tkE, h1.1, h1.2, h2.1, h2.2, if_pos hf, kP, kP]
  have := xGJ l (acc ++ [(e.1, e.2)]) (setR fl e.1 e.2 false) rest h.2 (fun p hp' => hp p (by simp [hp'])) (by rw [x0V hin]; exact hl)
  rw [this, x1T]
  simp
structure OkT (p : Key × Ob) : Prop where
 nm : ∃ nm, p.1 = keyB nm /\ isNameB nm = true
 d : p.2.d.length <= 65536
 a : Rise p.2.a
 ok : ∀ q ∈ p.2.a, AOk q
 al : p.2.a.length <= 9000000
 e : lens p.2.e = needsB p.2.d
 pos : ∀ e ∈ p.2.e, 1 <= e.2
theorem xP8 {p : Key × Ob} {rest : LN} (h : OkT p) (hok : OkA M.fl p.2.e false) (hl : M.fl.length <= 65536) : tkO ⟨putO (keyL p.1) p.2 ++ rest, false⟩ M = some (⟨M.bl, setA M.fl p.2.e false, gput p.1 p.2 M.ob⟩, ⟨rest, false⟩) := by
 obtain ⟨hn1, hn2⟩ := xKA h.nm
 have hd := h.d
 have hel := x2E h.pos
 have he := h.e
 have hal := h.al
 unfold needsB at he
 obtain ⟨t4, ht4⟩ := kX (p.2.e.flatMap putE ++ rest)
 obtain ⟨t3, ht3⟩ := kX (numB p.2.e.length ++ t4)
 obtain ⟨t2, ht2⟩ := kX (p.2.a.flatMap putA ++ t3)
 obtain ⟨t1, ht1⟩ := kX (numB p.2.a.length ++ t2)
 have h1 := x5Z (keyL p.1) (by omega) (sttxB p.2.d ++ t1)
 have h2 := x5Z p.2.d (by omega) t1
 have h3 := x45 p.2.a.length (by omega) t2
 have h4 := x45 p.2.e.length (by omega) t4
 have e0 : putO (keyL p.1) p.2 ++ rest = sttxB (keyL p.1) ++ (sttxB p.2.d ++ t1) := by
  unfold putO
  rw [xMC h.a h.a.keys, ht1, ht2, ht3, ht4]
  simp
 have hA := xGL p.2.a [] t3 (by simpa using h.a) h.ok
 have hE := xGJ p.2.e [] M.fl rest hok h.pos hl
 rw [<- ht2] at hA
 rw [<- ht4] at hE
 obtain ⟨sr, hs⟩ : ∃ sr : RD, sr = ⟨putO (keyL p.1) p.2 ++ rest, false⟩ := ⟨_, rfl⟩
 have q1 : sr.bytes = keyL p.1 := by rw [hs, e0]; exact h1.1
 have q2 : sr.bytesTo = ⟨sttxB p.2.d ++ t1, false⟩ := by rw [hs, e0]; exact h1.2
 have q3 : sr.bytesTo.bytes = p.2.d := by rw [q2]; exact h2.1
 have q4 : sr.bytesTo.bytesTo = ⟨t1, false⟩ := by rw [q2]; exact h2.2
 have q5 : sr.bytesTo.bytesTo.num.toNat = p.2.a.length := by rw [q4, ht1, h3.1]; exact kP _
 have q6 : sr.bytesTo.bytesTo.take 8 = ⟨t2, false⟩ := by rw [q4, ht1]; exact h3.2
 have q7 : (⟨t3, false⟩ : RD).num.toNat = p.2.e.length := by rw [ht3, h4.1]; exact kP _
 have q8 : (⟨t3, false⟩ : RD).take 8 = ⟨t4, false⟩ := by rw [ht3]; exact h4.2
 have hT := xDV (s := sr) (M := M) (a := p.2.a) (e := p.2.e) (fl := setA M.fl p.2.e false) (s3 := ⟨t3, false⟩) (s4 := ⟨rest, false⟩) ⟨by rw [q1]; exact hn1, by rw [q3]; exact hd⟩ (by rw [q5, q6]; exact hA) (by rw [q7, q8]; exact hE) (by rw [q3]; exact h.e)
 rw [<- hs, hT, q1, q3, x5T]
theorem xG4 : ∀ (L acc : List (Key × Ob)) (bl fl : List Bool) (rest : LN), Rise (acc ++ L) -> (∀ p ∈ L, OkT p) -> OkA fl (exts L) false -> fl.length <= 65536 →
  tkN L.length ⟨L.flatMap (fun p => putO (keyL p.1) p.2) ++ rest, false⟩ ⟨bl, fl, acc⟩ = some (⟨bl, setA fl (exts L) false, acc ++ L⟩, ⟨rest, false⟩)
 | [], acc, bl, fl, rest, _, _, _, _ => by simp [tkN, exts, setA]
 | p :: L, acc, bl, fl, rest, h, hok, ho, hl => by
  have hx : exts (p :: L) = p.2.e ++ exts L := rfl
  rw [hx, OkA.app] at ho
  have h1 := xP8 (p := p) (M := ⟨bl, fl, acc⟩) (rest := L.flatMap (fun p => putO (keyL p.1) p.2) ++ rest) (hok p (by simp)) ho.1 hl
  have hT := xEP (k := L.length) h1
  rw [length_cons, flatMap_cons, append_assoc, hT]
  simp only
  rw [xED (k := p.1) (v := p.2) h]
  have := xG4 L (acc ++ [p]) bl (setA fl p.2.e false) rest (by simpa using h) (fun q hq => hok q (by simp [hq])) ho.2 (by rw [ho.1.len]; exact hl)
  rw [this, hx, x94]
  simp
theorem xP5 {L : List (Nat × Nat)} (h : Good fl L) : OkA (List.replicate fl.length true) L false /\ setA (List.replicate fl.length true) L false = fl := by
 have hok : OkA (List.replicate fl.length true) L false := (x59 L _ false h.pos).2 ⟨fun e he => ⟨by simpa using h.inn e he, fun j h1 h2 => by have := h.inn e he; rw [List.getElem?_replicate, if_pos (by omega)]; rfl⟩, h.dis⟩
 refine ⟨hok, ?_⟩
 apply ext_getElem?
 intro j
 obtain ⟨h1, h2⟩ := hok.at_ j
 by_cases hj : j < fl.length
 ·have hc := h.cov j hj
  by_cases hv : Cov L j
  ·rw [(h1 hv).1, hc.1 hv]
  ·rw [h2 hv, List.getElem?_replicate, if_pos hj]
   have hn : fl[j]? ≠ some false := fun e => hv (hc.2 e)
   rw [List.getElem?_eq_getElem hj] at hn ⊢
   cases hb : fl[j] with
   | true => rfl
   | false => rw [hb] at hn; exact absurd rfl hn
 ·rw [List.getElem?_eq_none (by rw [hok.len, length_replicate]; omega), List.getElem?_eq_none (by omega)]
theorem xGG (h : Inv n M) (hN : InvN M) (hR : RiseM M) (hn : n <= 1000000) : tkP (putM M) = some M := by
 have hl := h.len
 have hbl := h.bl
 have hfew := h.few
 have hok : ∀ p ∈ M.ob, OkT p := fun p hp => by
  have ho := h.obs p hp
  exact ⟨h.nms p hp, ho.d, hR.2 p hp, hN p hp, by have := ho.a; omega, ho.e, fun e he => h.good.pos e (mem_flatMap.2 ⟨p, hp, he⟩)⟩
 obtain ⟨hA, hS⟩ := xP5 h.good
 have hT := xG4 M.ob [] M.bl (List.replicate M.fl.length true) [] (by simpa using hR.1) hok hA (by simpa using hl)
 have hflat : (srt (M.ob.map (·.1))).flatMap (putK M) = M.ob.flatMap fun p => putO (keyL p.1) p.2 := by
  rw [xDU hR.1, List.flatMap_map]
  refine congrArg List.flatten (map_congr_left fun p hp => ?_)
  unfold putK
  rw [h.keys.get hp]
 obtain ⟨t2, ht2⟩ := kX ((M.ob.flatMap fun p => putO (keyL p.1) p.2) ++ [])
 obtain ⟨t1, ht1⟩ := kX (numB M.ob.length ++ t2)
 have e0 : putM M = numB M.fl.length ++ (flB M.bl ++ t1) := by
  unfold putM
  rw [hflat, ht1, ht2]
  simp
 have h1 := x45 M.fl.length (by omega) (flB M.bl ++ t1)
 have h2 := xPE M.bl hbl t1
 have h3 := x45 M.ob.length (by omega) t2
 obtain ⟨bs, hbs⟩ := kX (putM M)
 rw [<- hbs] at e0 ⊢
 have q1 : (⟨bs, false⟩ : RD).num = M.fl.length := by rw [e0]; exact h1.1
 have q2 : (⟨bs, false⟩ : RD).take 8 = ⟨flB M.bl ++ t1, false⟩ := by rw [e0]; exact h1.2
 have q3 : flS ((⟨bs, false⟩ : RD).take 8) 8 = (⟨t1, false⟩, M.bl) := by rw [q2]; exact h2
 have q4 : (⟨t1, false⟩ : RD).num.toNat = M.ob.length := by rw [ht1, h3.1]; exact kP _
 have q5 : (⟨t1, false⟩ : RD).take 8 = ⟨t2, false⟩ := by rw [ht1]; exact h3.2
 have hT2 : tkN (flS ((⟨bs, false⟩ : RD).take 8) 8).1.num.toNat ((flS ((⟨bs, false⟩ : RD).take 8) 8).1.take 8) ⟨(flS ((⟨bs, false⟩ : RD).take 8) 8).2, List.replicate (⟨bs, false⟩ : RD).num.toNat true, []⟩ = some (M, ⟨[], false⟩) := by
  rw [q3, q1, kP]
  simp only
  rw [q4, q5, ht2, hT, hS]
  rfl
 exact xDN ⟨by omega, by omega⟩ hT2
theorem xGO (h : Inv n M) (hN : InvN M) (hR : RiseM M) (hn : n <= 1000000) : tkM (putM M) = some M := by
  exact xCR (xGG h hN hR hn) rfl
end
theorem xFA (bl : List Bool) (n : Int) : (blockAt bl n).length = bl.length := by
 unfold blockAt
 split
 ·exact length_set
 ·rfl
theorem Inv.block (h : Inv n M) (x : Int) : Inv n {M with bl := blockAt M.bl x} := ⟨h.keys, h.few, h.len, (xFA _ _).trans h.bl, h.good, h.obs, h.nms⟩
theorem InvA.block (h : InvA n M) (x : Int) : InvA n {M with bl := blockAt M.bl x} := ⟨h.ak, h.tot⟩
theorem xLL {v : Value} (h : Own w base v n bs) : ∃ A c, v = .slice A n c := by
 rcases h.2 with ⟨e, h0⟩ | ⟨g, c, cur, e, _⟩
 ·exact ⟨none, 0, by rw [e, h0]⟩
 ·exact ⟨_, c, e⟩
end Go.Proofs.YtpogpajjemaagaaGreatDoor
