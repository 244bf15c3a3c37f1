/-
  An object's extents are taken: the walk. Conditions: the object, the store and the reader lie where they are said to.
-/
import Derived.Test.YtfbpfgbmlbkffaaGreatZi
import Derived.Test.YtfbpfgbmlbkffaaGreatSkcC
namespace Go.Proofs.YtfbpfgbmlbkffaaGreat
open Go.RowKit Go.BigFrame
set_option linter.unusedSimpArgs false
set_option linter.unusedVariables false
set_option maxRecDepth 100000
theorem exec_load_ext {a : Act} {op : Oper} {x : Operand} {w : World} {g : Nat} {e : Int × Int} (ho : op.op = .load 81 x) (hx : a.eval x = .pointer (some ⟨g, 0, none⟩)) (h : Blk w g 81 #[.int .i64 e.1, .int .i64 e.2]) : (execOp a.eval op).run Tryz.prog w = .ok (.value (.agg #[.int .i64 e.1, .int .i64 e.2])) w := by
  have hl := run_load_ext h
  unfold execOp
  simp only [ho, hx, Instr.loadAt, Instr.sureAddr, Sem.run_bind, Sem.run_pure, Result.andThen_ok, hl]
theorem okE_cnt {fl : List Bool} {a b : Nat} (h : AllR fl a b true) : cnt (setR fl a b false) + b = cnt fl ∧ (setR fl a b false).length = fl.length := by
  have h1 := OkA.cnt (es := [(a, b)]) (b := false) (l := fl) ⟨h, trivial⟩
  have e : setA fl [(a, b)] false = setR fl a b false := rfl
  rw [e] at h1
  simp [lens] at h1
  exact ⟨by omega, setR_len h.1 false⟩
theorem foot_same {gp r : Nat} {fl fl' : List Bool} (h : fl'.length = fl.length) : foot gp r fl' = foot gp r fl := by
  unfold foot
  by_cases hf : fl = []
  · have : fl' = [] := List.eq_nil_of_length_eq_zero (by rw [h, hf]; rfl)
    rw [if_pos hf, if_pos this]
  · have : fl' ≠ [] := fun e => hf (List.eq_nil_of_length_eq_zero (by rw [← h, e]; rfl))
    rw [if_neg hf, if_neg this]
set_option maxHeartbeats 16000000 in
theorem takee_any {w0 w : World} {base g go mb c gs ms gp r c1 : Nat} {D A : Option Addr} {bl fl : List Bool} {kvs kv : KV} {d : List Nat} {al : AL} {F : List Nat} {s : RD} (hst : StAt w gs ms gp r c1 A bl fl kvs) (hO : ObAt w go mb c 0 D none kv ⟨d, al, []⟩) (hR : Rd w base F (some ⟨g, 0, none⟩) s) (hB : base ≤ w0.heap.size) (hs : s.bs.length ≤ 1000000) (hd : d.length ≤ 65536)
    (hon : Only (g :: foot gp r fl) w0 w) (hgo : w0.heap.size ≤ go) (hmb : w0.heap.size ≤ mb) (hgs : gs < w0.heap.size) (hms : ms < w0.heap.size) (hfo : ∀ k ∈ foot gp r fl, k < w0.heap.size) (hF : ∀ k ∈ F, k ∉ foot gp r fl) (hFg : ∀ k ∈ F, k < w0.heap.size) :
    Calls Tryz.prog 61 #[.pointer (some ⟨gs, 0, none⟩), .pointer (some ⟨go, 0, none⟩), .pointer (some ⟨g, 0, none⟩)] w (TkETo w0 base g go mb c gs ms gp r c1 D A bl fl kvs kv ⟨d, al, []⟩ F s) := by
  have HR := Lib.hid (rnum_any w base F (some ⟨g, 0, none⟩) s hR (Nat.le_trans hB hon.size))
  have H0 := Lib.hid (And.intro hst (And.intro hO (And.intro hR (And.intro hB (And.intro hs hd)))))
  have HP := Lib.hid (And.intro hgo (And.intro hmb (And.intro hgs (And.intro hms (And.intro hfo (And.intro hF hFg))))))
  have HW := Lib.hid hon
  have hfl := hst.sp.lim
  obtain ⟨N, hN⟩ : ∃ N, N = s.num := ⟨_, rfl⟩
  have hNr := num_range s
  have HT := Lib.hid (And.intro hN (RD.take_le s 8))
  rw [← hN] at HR hNr
  clear hst hO hR hs hon hgo hmb hgs hms hfo hF hFg hN
  go_enter Tryz.func61, Tryz.ntmps61
  go_wp2_with fail
  refine HR.out.mono ?_
  rintro e w1 ⟨rfl, F1, r1, o1, f1⟩
  have O1 := H0.out.2.1.rd o1 H0.out.2.2.1.readers
  have S1 := H0.out.1.rd o1 H0.out.2.2.1.readers
  have N1 : Only (g :: foot gp r fl) w0 w1 := HW.out.trans o1 (fun k hk => by simp [heads] at hk; simp [hk])
  have H1 := Lib.hid (And.intro f1 (And.intro r1 (And.intro O1 (And.intro S1 N1))))
  clear r1 o1 f1 O1 HR S1 N1
  go_wp2_with fail
  go_loopw [10] (fun iv wr => ∃ (k : Nat) (es : List (Nat × Nat)) (fk : List Bool) (sk : RD) (Fk : List Nat) (ce' : Nat) (E' : Option Addr), iv = .int .i64 k ∧ (k = 0 ∨ (k : Int) ≤ N) ∧ tkE s.num.toNat (s.take 8) fl [] = tkE (N.toNat - k) sk fk es ∧ StAt wr gs ms gp r c1 A bl fk kvs ∧ fk.length = fl.length ∧ ObAt wr go mb c ce' D E' kv ⟨d, al, es⟩ ∧ (∀ b ∈ rowOf (.slice E' es.length ce'), w0.heap.size ≤ b) ∧ Rd wr base Fk (some ⟨g, 0, none⟩) sk ∧ (∀ k ∈ Fk, k ∈ F) ∧ Only (g :: foot gp r fl) w0 wr ∧ lens es + cnt fk = cnt fl ∧ (∀ e ∈ es, 1 ≤ e.2) ∧ sk.bs.length ≤ s.bs.length) (fun iv _ => N.toNat - (intS iv).toNat)
  case atStart => exact ⟨0, [], fl, s.take 8, F1, 0, none, rfl, .inl rfl, by rw [HT.out.1]; rfl, H1.out.2.2.2.1, rfl, H1.out.2.2.1, (fun b hb => by simp [rowOf, Value.ownBlock] at hb), H1.out.2.1, H1.out.1, H1.out.2.2.2.2, by simp [lens], (fun e he => by cases he), HT.out.2⟩
  case round =>
    obtain ⟨k, es, fk, sk, Fk, ce', E', rfl, hk, htk, hSk, hfk, hOk, hEk, hRk, hFk, honk, hcnt, hpos, hle⟩ := hrel
    have hsz := honk.size
    by_cases hlt : (k : Int) < N
    -- {A
    · have hdk : decide ((k : Int) < N) = true := decide_eq_true hlt
      have hwk : IntKind.i64.wrap ((k : Int) + 1) = (k : Int) + 1 := by rw [IntKind.wrap_i64]; omega
      obtain ⟨j, hj⟩ : ∃ j, N.toNat - k = j + 1 := ⟨N.toNat - k - 1, by omega⟩
      have hj2 : N.toNat - (k + 1) = j := by omega
      rw [hj, tkE] at htk
      have hlt' := hlt
      clear hj
      have hwB : base ≤ wr.heap.size := Nat.le_trans H0.out.2.2.2.1 hsz
      have HX := Lib.hid (rnum_any wr base Fk (some ⟨g, 0, none⟩) sk hRk hwB)
      have HK := Lib.hid (And.intro htk (And.intro hSk (And.intro hfk (And.intro hOk (And.intro hEk (And.intro hRk (And.intro hFk (And.intro honk (And.intro hcnt (And.intro hpos (And.intro hle (And.intro hj2 hwB))))))))))))
      have hxr := num_range sk
      have hyr := num_range (sk.take 8)
      obtain ⟨x, hx⟩ : ∃ x, x = sk.num := ⟨_, rfl⟩
      obtain ⟨y, hy⟩ : ∃ y, y = (sk.take 8).num := ⟨_, rfl⟩
      have HXY := Lib.hid (And.intro hx hy)
      rw [← hx] at HX hxr
      rw [← hy] at hyr
      have hI : InI (x, y) := ⟨hxr, hyr⟩
      clear htk hSk hfk hOk hEk hRk hFk honk hcnt hpos hle hj2 hx
      go_wp2_with fail
      refine HX.out.mono ?_
      rintro e w2 ⟨rfl, F2, r2, o2, f2⟩
      have HY := Lib.hid (rnum_any w2 base F2 (some ⟨g, 0, none⟩) (sk.take 8) r2 (Nat.le_trans hwB o2.size))
      rw [← hy] at HY
      have H2 := Lib.hid (And.intro r2 (And.intro o2 f2))
      clear r2 o2 f2 HX hy
      go_wp2_with fail
      refine HY.out.mono ?_
      rintro e w3 ⟨rfl, F3, r3, o3, f3⟩
      have H3 := Lib.hid (And.intro r3 (And.intro o3 f3))
      clear r3 o3 f3 HY
      go_upto_region 4 with (fail)
      obtain ⟨w4, hw4⟩ : ∃ w4, w4 = w3.alloc (.cells #[.int .i64 x, .int .i64 y] 81) := ⟨_, rfl⟩
      obtain ⟨ge, hge⟩ : ∃ ge, ge = w3.heap.size := ⟨_, rfl⟩
      have hb4 : Below w3.heap.size w3 w4 := by rw [hw4]; exact (Below.refl _ _).alloc (Nat.le_refl _) _
      have K4 : Blk w4 ge 81 #[.int .i64 x, .int .i64 y] := by rw [hw4, hge]; exact Blk.new _ _ _
      have hz2 := H2.out.2.1.size
      have hz3 := H3.out.2.1.size
      have S4 : StAt w4 gs ms gp r c1 A bl fk kvs := ((HK.out.2.1.rd H2.out.2.1 HK.out.2.2.2.2.2.1.readers).rd H3.out.2.1 H2.out.1.readers).below hb4
      have O4 : ObAt w4 go mb c ce' D E' kv ⟨d, al, es⟩ := ((HK.out.2.2.2.1.rd H2.out.2.1 HK.out.2.2.2.2.2.1.readers).rd H3.out.2.1 H2.out.1.readers).below hb4
      have R4 := H3.out.1.below hb4
      have N4 : Only (g :: foot gp r fl) w0 w4 := ((HK.out.2.2.2.2.2.2.2.1.trans H2.out.2.1 (fun k hk => by simp [heads] at hk; simp [hk])).trans H3.out.2.1 (fun k hk => by simp [heads] at hk; simp [hk])).trans (Only.of_below hb4 []) (fun k hk => by cases hk)
      have hgew : w0.heap.size ≤ ge := by omega
      have hge4 : ge < w4.heap.size := K4.lt
      have HGE : Hid (wr.heap.size ≤ ge) := Lib.hid (by omega)
      have H4 := Lib.hid (And.intro S4 (And.intro O4 (And.intro R4 (And.intro N4 (And.intro K4 (And.intro hgew hge4))))))
      rw [← hw4, ← hge]
      clear hw4 hge hb4 hz2 hz3 R4 N4 hgew
      have HC : Hid (∀ w', TwoE gs ge 67 (stC ms bl gp) (x, y) w' → w'.cell? ⟨gs, 9, none⟩ = some (.pointer (some ⟨gp, 0, none⟩))) := Lib.hid fun w' h => (show StAt w4 gs ms gp r c1 A bl fk kvs from S4).c9_of h.1
      have hS : TwoE gs ge 67 (stC ms bl gp) (x, y) w4.drew := ⟨S4.blk.drew, K4.drew⟩
      clear S4 O4 K4
      refine any_beginL (TwoE gs ge 67 (stC ms bl gp) (x, y)) 99 (by kernel_rfl) ?_
      refine S_take (i := 0) (v := .pointer (some ⟨gs, 0, none⟩)) rfl rfl (by kernel_rfl) (by kernel_rfl) (by kernel_rfl) (fun _ _ _ h => h) (Or.inl ⟨by rfl, fun w hw => by kernel_rfl⟩) hS ?_
      simp only [Act.put, List.getElem_toArray, List.getElem_cons_succ, List.getElem_cons_zero, List.setIfInBounds_toArray, List.set_cons_zero, List.set_cons_succ]
      refine S_take (i := 1) (v := .pointer (some ⟨gs, 0, none⟩)) rfl rfl (by kernel_rfl) (by kernel_rfl) (by kernel_rfl) (fun _ _ _ h => h) (Or.inl ⟨by rfl, fun w hw => by kernel_rfl⟩) hS ?_
      simp only [Act.put, List.getElem_toArray, List.getElem_cons_succ, List.getElem_cons_zero, List.setIfInBounds_toArray, List.set_cons_zero, List.set_cons_succ]
      refine S_take (i := 2) (v := .pointer (some ⟨gs, 9, none⟩)) rfl rfl (by kernel_rfl) (by kernel_rfl) (by kernel_rfl) (fun _ _ _ h => h) (Or.inl ⟨by rfl, fun w hw => by go_simp⟩) hS ?_
      simp only [Act.put, List.getElem_toArray, List.getElem_cons_succ, List.getElem_cons_zero, List.setIfInBounds_toArray, List.set_cons_zero, List.set_cons_succ]
      refine S_take (i := 3) (v := .pointer (some ⟨gp, 0, none⟩)) rfl rfl (by kernel_rfl) (by kernel_rfl) (by kernel_rfl) (fun _ _ _ h => h) (Or.inl ⟨by rfl, fun w hw => by have q := HC.out w hw; go_simp⟩) hS ?_
      simp only [Act.put, List.getElem_toArray, List.getElem_cons_succ, List.getElem_cons_zero, List.setIfInBounds_toArray, List.set_cons_zero, List.set_cons_succ]
      refine S_take (i := 4) (v := .agg #[.int .i64 x, .int .i64 y]) rfl rfl (by kernel_rfl) (by kernel_rfl) (by kernel_rfl) (fun _ _ _ h => h) (Or.inl ⟨by rfl, fun w hw => by exact exec_load_ext (e := (x, y)) rfl rfl hw.2⟩) hS ?_
      simp only [Act.put, List.getElem_toArray, List.getElem_cons_succ, List.getElem_cons_zero, List.setIfInBounds_toArray, List.set_cons_zero, List.set_cons_succ]
      have hbx : (Instr.buildSlice 74 1 #[(0, .agg #[.int .i64 x, .int .i64 y])]).run Tryz.prog w4.drew = .ok (.slice (some ⟨w4.drew.heap.size, 0, none⟩) 1 1) (w4.drew.alloc (.cells #[.int .i64 x, .int .i64 y] 81)) := build_ext (x, y) w4.drew
      refine L_one (j := 5) (by kernel_rfl) rfl (by rfl) ?_
      simp only [Act.put, List.getElem_toArray, List.getElem_cons_succ, List.getElem_cons_zero, List.setIfInBounds_toArray, List.set_cons_zero, List.set_cons_succ]
      refine wp_ran (v := .slice (some ⟨w4.drew.heap.size, 0, none⟩) 1 1) (w' := w4.drew.alloc (.cells #[.int .i64 x, .int .i64 y] 81)) (by go_simp) ⟨⟨hS.1.alloc _, hS.2.alloc _⟩, ?_⟩
      simp only [Act.put, List.getElem_toArray, List.getElem_cons_succ, List.getElem_cons_zero, List.setIfInBounds_toArray, List.set_cons_zero, List.set_cons_succ]
      have hb5 : Below w4.heap.size w4 (w4.drew.alloc (.cells #[.int .i64 x, .int .i64 y] 81)) := (drawn_below (Below.refl _ _) 1).alloc (Nat.le_refl _) _
      have hE5 : ExtR (w4.drew.alloc (.cells #[.int .i64 x, .int .i64 y] 81)) (w4.drew.heap.size + 1) (some ⟨w4.drew.heap.size, 0, none⟩) [(x, y)] := Reads.newN w4.drew (extS [(x, y)]) 1 2 81 (0, 0) rfl
      have S5 := H4.out.1.below hb5
      have HCL := Lib.hid (claim_foot (x, y) hI S5.sp S5.ne (some ⟨w4.drew.heap.size, 0, none⟩) 1 (Nat.le_refl _) hE5 (by simp) (fun ad e hm => by
        injection e with e
        subst e
        rw [foot_same HK.out.2.2.1] at hm
        have h1 := HP.out.2.2.2.2.1 _ hm
        have h2 := H4.out.2.2.2.1.size
        have h3 : w4.drew.heap.size = w4.heap.size := rfl
        simp only at h1
        omega))
      obtain ⟨w5, hw5⟩ : ∃ w5, w5 = w4.drew.alloc (.cells #[.int .i64 x, .int .i64 y] 81) := ⟨_, rfl⟩
      rw [← hw5] at hb5 S5 HCL hE5 ⊢
      refine L_one (j := 6) (by kernel_rfl) rfl (by rfl) ?_
      simp only [Act.put, List.getElem_toArray, List.getElem_cons_succ, List.getElem_cons_zero, List.setIfInBounds_toArray, List.set_cons_zero, List.set_cons_succ]
      refine wp_called (by kernel_rfl) HCL.out ?_
      rintro e w6 ⟨ho6, hcase⟩
      have hgsf : gs ∉ foot gp r fk := fun hm => S5.sp.foot_odd (by decide) (by decide) hm _ S5.blk
      have hmsf : ms ∉ foot gp r fk := fun hm => by
        obtain ⟨t, cs, hb, _⟩ := S5.sp.foot_typed hm
        exact S5.map.ne_blk hb rfl
      have K5 : Blk w5 ge 81 #[.int .i64 x, .int .i64 y] := H4.out.2.2.2.2.1.of (hb5.block _ H4.out.2.2.2.2.1.lt)
      have hgef : ge ∉ foot gp r fk := fun hm => S5.sp.foot_odd (by decide) (by decide) hm _ K5
      have K6 := K5.of (ho6.block _ K5.lt hgef)
      have G6 := S5.blk.of (ho6.block _ S5.blk.lt hgsf)
      have hFk : ∀ b ∈ F3, b ∈ F := fun b hb => HK.out.2.2.2.2.2.2.1 b (H2.out.2.2 b (H3.out.2.2 b hb))
      have O6 : ObAt w6 go mb c ce' D E' kv ⟨d, al, es⟩ := (H4.out.2.1.below hb5).foot S5.sp ho6
      have R5 := H4.out.2.2.1.below hb5
      have R6 : Rd w6 base F3 (some ⟨g, 0, none⟩) ((sk.take 8).take 8) := R5.of ho6.size (fun b hb => ho6.block b (R5.under b hb) (fun hm => HP.out.2.2.2.2.2.1 b (hFk b hb) (by rw [← foot_same HK.out.2.2.1]; exact hm)))
      have N6 : Only (g :: foot gp r fl) w0 w6 := (H4.out.2.2.2.1.trans (Only.of_below hb5 []) (fun k hk => by cases hk)).trans ho6 (fun b hb => .inl (List.mem_cons_of_mem _ (by rw [← foot_same HK.out.2.2.1]; exact hb)))
      have hs56 := ho6.size
      have hs45 := hb5.size
      have H6 := Lib.hid (And.intro O6 (And.intro R6 (And.intro N6 (And.intro K6 (And.intro hFk G6)))))
      rcases hcase with ⟨hfr, rfl, hs6⟩ | ⟨hfr, rfl, hs6⟩
      -- {Y
      · have S6 : StAt w6 gs ms gp r c1 A bl (setR fk x.toNat y.toNat false) kvs := S5.turned ho6 hgsf hmsf hs6
        have HS6 := Lib.hid (And.intro S6 hfr)
        have hge6 : ge < w6.heap.size := K6.lt
        clear S6 O6 R6 N6 R5 hgsf hmsf K5 hgef hS HC hE5 hbx HCL S5 hb5 hw5 hs6 hfr ho6 hFk
        refine ⟨_, rfl, ⟨G6, K6⟩, ?_⟩
        simp only [Act.put, List.getElem_toArray, List.getElem_cons_succ, List.getElem_cons_zero, List.setIfInBounds_toArray, List.set_cons_zero, List.set_cons_succ]
        refine L_one (j := 7) (by kernel_rfl) rfl (by rfl) ?_
        simp only [Act.put, List.getElem_toArray, List.getElem_cons_succ, List.getElem_cons_zero, List.setIfInBounds_toArray, List.set_cons_zero, List.set_cons_succ]
        refine wp_ran (v := .bool false) (w' := w6) (by go_simp) ⟨⟨G6, K6⟩, ?_⟩
        simp only [Act.put, List.getElem_toArray, List.getElem_cons_succ, List.getElem_cons_zero, List.setIfInBounds_toArray, List.set_cons_zero, List.set_cons_succ]
        refine L_done (by kernel_rfl) ?_
        refine NoPanic.normal ?_
        clear G6 K6
        go_upto_region 6 with (fail)
        have HO : Hid (∀ w', TwoE go ge 99 (objC D d.length c (.map (some mb)) E' es.length ce') (x, y) w' → w'.cell? ⟨go, 2, none⟩ = some (.slice E' es.length ce')) := Lib.hid fun w' h => h.1.cell 2
        have hS : TwoE go ge 99 (objC D d.length c (.map (some mb)) E' es.length ce') (x, y) w6.drew := ⟨H6.out.1.blk.drew, H6.out.2.2.2.1.drew⟩
        refine any_beginL (TwoE go ge 99 (objC D d.length c (.map (some mb)) E' es.length ce') (x, y)) 10 (by kernel_rfl) ?_
        refine L_take (i := 0) (v := .pointer (some ⟨go, 0, none⟩)) rfl rfl (by kernel_rfl) (by kernel_rfl) (by kernel_rfl) (by kernel_rfl) (fun _ _ _ h => h) (Or.inl ⟨by rfl, fun w hw => by kernel_rfl⟩) hS ?_
        simp only [Act.put, List.getElem_toArray, List.getElem_cons_succ, List.getElem_cons_zero, List.setIfInBounds_toArray, List.set_cons_zero, List.set_cons_succ]
        refine L_take (i := 1) (v := .pointer (some ⟨go, 0, none⟩)) rfl rfl (by kernel_rfl) (by kernel_rfl) (by kernel_rfl) (by kernel_rfl) (fun _ _ _ h => h) (Or.inl ⟨by rfl, fun w hw => by kernel_rfl⟩) hS ?_
        simp only [Act.put, List.getElem_toArray, List.getElem_cons_succ, List.getElem_cons_zero, List.setIfInBounds_toArray, List.set_cons_zero, List.set_cons_succ]
        refine L_take (i := 2) (v := .pointer (some ⟨go, 0, none⟩)) rfl rfl (by kernel_rfl) (by kernel_rfl) (by kernel_rfl) (by kernel_rfl) (fun _ _ _ h => h) (Or.inl ⟨by rfl, fun w hw => by kernel_rfl⟩) hS ?_
        simp only [Act.put, List.getElem_toArray, List.getElem_cons_succ, List.getElem_cons_zero, List.setIfInBounds_toArray, List.set_cons_zero, List.set_cons_succ]
        refine L_take (i := 3) (v := .pointer (some ⟨go, 2, none⟩)) rfl rfl (by kernel_rfl) (by kernel_rfl) (by kernel_rfl) (by kernel_rfl) (fun _ _ _ h => h) (Or.inl ⟨by rfl, fun w hw => by go_simp⟩) hS ?_
        simp only [Act.put, List.getElem_toArray, List.getElem_cons_succ, List.getElem_cons_zero, List.setIfInBounds_toArray, List.set_cons_zero, List.set_cons_succ]
        refine L_take (i := 4) (v := .slice E' es.length ce') rfl rfl (by kernel_rfl) (by kernel_rfl) (by kernel_rfl) (by kernel_rfl) (fun _ _ _ h => h) (Or.inl ⟨by rfl, fun w hw => by have q := HO.out w hw; go_simp⟩) hS ?_
        simp only [Act.put, List.getElem_toArray, List.getElem_cons_succ, List.getElem_cons_zero, List.setIfInBounds_toArray, List.set_cons_zero, List.set_cons_succ]
        refine L_take (i := 5) (v := .agg #[.int .i64 x, .int .i64 y]) rfl rfl (by kernel_rfl) (by kernel_rfl) (by kernel_rfl) (by kernel_rfl) (fun _ _ _ h => h) (Or.inl ⟨by rfl, fun w hw => by exact exec_load_ext (e := (x, y)) rfl rfl hw.2⟩) hS ?_
        simp only [Act.put, List.getElem_toArray, List.getElem_cons_succ, List.getElem_cons_zero, List.setIfInBounds_toArray, List.set_cons_zero, List.set_cons_succ]
        have hbx : (Instr.buildSlice 74 1 #[(0, .agg #[.int .i64 x, .int .i64 y])]).run Tryz.prog w6.drew = .ok (.slice (some ⟨w6.drew.heap.size, 0, none⟩) 1 1) (w6.drew.alloc (.cells #[.int .i64 x, .int .i64 y] 81)) := build_ext (x, y) w6.drew
        refine L_one (j := 6) (by kernel_rfl) rfl (by rfl) ?_
        simp only [Act.put, List.getElem_toArray, List.getElem_cons_succ, List.getElem_cons_zero, List.setIfInBounds_toArray, List.set_cons_zero, List.set_cons_succ]
        refine wp_ran (v := .slice (some ⟨w6.drew.heap.size, 0, none⟩) 1 1) (w' := w6.drew.alloc (.cells #[.int .i64 x, .int .i64 y] 81)) (by go_simp) ⟨⟨hS.1.alloc _, hS.2.alloc _⟩, ?_⟩
        simp only [Act.put, List.getElem_toArray, List.getElem_cons_succ, List.getElem_cons_zero, List.setIfInBounds_toArray, List.set_cons_zero, List.set_cons_succ]
        have hb7 : Below w6.heap.size w6 (w6.drew.alloc (.cells #[.int .i64 x, .int .i64 y] 81)) := (drawn_below (Below.refl _ _) 1).alloc (Nat.le_refl _) _
        have hE7 : Reads (w6.drew.alloc (.cells #[.int .i64 x, .int .i64 y] 81)) (w6.drew.heap.size + 1) 2 (some ⟨w6.drew.heap.size, 0, none⟩) 1 (ext1 (x, y)) := Reads.newN w6.drew (ext1 (x, y)) 1 2 81 (0, 0) rfl
        have O7 := H6.out.1.below hb7
        have K7 := H6.out.2.2.2.1.of (hb7.block _ H6.out.2.2.2.1.lt)
        obtain ⟨i0, hi0, hz0, hz1, hz2⟩ := info_parts ext_info
        refine L_one (j := 7) (by kernel_rfl) rfl (by rfl) ?_
        simp only [Act.put, List.getElem_toArray, List.getElem_cons_succ, List.getElem_cons_zero, List.setIfInBounds_toArray, List.set_cons_zero, List.set_cons_succ]
        have hx7 := O7.ext
        have hcn := HK.out.2.2.2.2.2.2.2.2.1
        have hel := len_lens HK.out.2.2.2.2.2.2.2.2.2.1
        have hcl := cnt_le fl
        have hes : es.length ≤ 65536 := by omega
        unfold OwnE at hx7
        rw [natE_len] at hx7
        refine wp_append_any _ (.tmp 29) (.tmp 31) 74 rfl 0 81 i0 _ 2 16 Tryz.underlying74 hi0 hz0 hz1 hz2 rfl (by omega) (.slice E' es.length ce') es.length _ rfl hx7 _ (some ⟨w6.drew.heap.size, 0, none⟩) 1 1 (ext1 (x, y)) rfl hE7 (by intro u hu; simp [ext1] at hu; rcases hu with rfl | rfl <;> rfl) (by simp only [maxLen]; omega) (by omega) (Nat.zero_le _) ?_
        intro v' w7 hown hgr hor
        have hTg : some go ≠ (Value.slice E' es.length ce').ownBlock := fun e => by
          obtain ⟨cs, hb⟩ := typed_of hx7 e.symm
          exact O7.blk.ne_ hb (by decide) rfl
        have hTe : some ge ≠ (Value.slice E' es.length ce').ownBlock := fun e => by
          have h1 := row_under HK.out.2.2.2.1.ext ge (mem_rowOf.2 e.symm)
          have h2 := HGE.out
          omega
        have G7 := O7.blk.grown hgr hTg
        have E7 := K7.grown hgr hTe
        refine ⟨⟨G7, E7⟩, ?_⟩
        simp only [Act.put, List.getElem_toArray, List.getElem_cons_succ, List.getElem_cons_zero, List.setIfInBounds_toArray, List.set_cons_zero, List.set_cons_succ]
        refine L_one (j := 8) (by kernel_rfl) rfl (by rfl) ?_
        simp only [Act.put, List.getElem_toArray, List.getElem_cons_succ, List.getElem_cons_zero, List.setIfInBounds_toArray, List.set_cons_zero, List.set_cons_succ]
        refine wp_ran (v := .pointer (some ⟨go, 0, none⟩)) (w' := w7) (by go_simp) ⟨⟨G7, E7⟩, ?_⟩
        simp only [Act.put, List.getElem_toArray, List.getElem_cons_succ, List.getElem_cons_zero, List.setIfInBounds_toArray, List.set_cons_zero, List.set_cons_succ]
        refine L_one (j := 9) (by kernel_rfl) rfl (by rfl) ?_
        simp only [Act.put, List.getElem_toArray, List.getElem_cons_succ, List.getElem_cons_zero, List.setIfInBounds_toArray, List.set_cons_zero, List.set_cons_succ]
        refine wp_ran (v := .pointer (some ⟨go, 2, none⟩)) (w' := w7) (by kernel_rfl) ⟨⟨G7, E7⟩, ?_⟩
        simp only [Act.put, List.getElem_toArray, List.getElem_cons_succ, List.getElem_cons_zero, List.setIfInBounds_toArray, List.set_cons_zero, List.set_cons_succ]
        obtain ⟨E2, ce2, rfl⟩ : ∃ E2 ce2, v' = .slice E2 (es.length + 1) ce2 := by
          rcases hown.2 with ⟨_, h0⟩ | ⟨g', cap', cur, e, _⟩
          · omega
          · exact ⟨_, _, e⟩
        refine L_last (by kernel_rfl) rfl (by rfl) (by kernel_rfl) ?_
        simp only [Act.put, List.getElem_toArray, List.getElem_cons_succ, List.getElem_cons_zero, List.setIfInBounds_toArray, List.set_cons_zero, List.set_cons_succ]
        refine wp_set_blk2 74 (.tmp 34) (.tmp 32) (by rfl) go 2 99 _ (.slice E2 (es.length + 1) ce2) (by rfl) (by rfl) G7 (by simp [objC]) (by kernel_rfl) rfl ?_
        refine NoPanic.normal ?_
        obtain ⟨w8, hw8⟩ : ∃ w8, w8 = w7.setCell ⟨go, 2, none⟩ (.slice E2 (es.length + 1) ce2) := ⟨_, rfl⟩
        have hon7 : Only (go :: rowOf (.slice E' es.length ce')) w6 w7 := ((Only.of_below hb7 []).trans (F' := []) (Only.refl _ _) (Fresh.refl _ _) |>.mono (fun k hk => by cases hk)).grown hgr (fun b hg => .inl (by simp [mem_rowOf, hg]))
        have hon78 : Only [go] w7 w8 := by rw [hw8]; exact (Only.refl _ _).setCell (.inl (by simp)) _
        have hon8 : Only (go :: rowOf (.slice E' es.length ce')) w6 w8 := hon7.trans hon78 (fun k hk => .inl (by simp at hk; simp [hk]))
        have G8 : Blk w8 go 99 (objC D d.length c (.map (some mb)) E2 (es ++ [(x.toNat, y.toNat)]).length ce2) := by
          rw [hw8, List.length_append]
          exact G7.set_ 2 _
        obtain ⟨a, b, hxa, hyb, hb1, hall⟩ := freeB_iff.1 HS6.out.2
        have hxt : x.toNat = a := by omega
        have hyt : y.toNat = b := by omega
        have hone : natE (es ++ [(x.toNat, y.toNat)]) = natE es ++ [(x, y)] := by
          simp only [natE, List.map_append, List.map_cons, List.map_nil]
          rw [hxt, hyt, ← hxa, ← hyb]
        have hown8 : OwnE w8 0 (.slice E2 (es ++ [(x.toNat, y.toNat)]).length ce2) (natE (es ++ [(x.toNat, y.toNat)])) := by
          have h1 := own_odd hown hon78 (fun k hk => by simp at hk; subst hk; exact Odd.blk G7 (by decide))
          unfold OwnE
          rw [hone, List.length_append, List.length_append, natE_len, extS, List.flatMap_append, List.flatMap_cons, List.flatMap_nil, List.append_nil]
          exact h1
        have O8 := H6.out.1.more G8 hown8 hon8
        have hrow : ∀ b ∈ rowOf (.slice E' es.length ce'), w0.heap.size ≤ b := HK.out.2.2.2.2.1
        have hrow8 : ∀ b ∈ rowOf (.slice E2 (es ++ [(x.toNat, y.toNat)]).length ce2), w0.heap.size ≤ b := fun b hb => by
          rcases hor with h | h
          · refine hrow b (mem_rowOf.2 ?_)
            rw [← h, ← mem_rowOf.1 hb]
            cases E2 <;> rfl
          · have h2 : (Value.slice E2 (es.length + 1) ce2).ownBlock = some b := by
              rw [← mem_rowOf.1 hb]
              cases E2 <;> rfl
            rw [h] at h2
            injection h2 with h2
            have h3 : w6.drew.heap.size = w6.heap.size := rfl
            have h4 := H6.out.2.2.1.size
            simp at h2
            omega
        have S8 : StAt w8 gs ms gp r c1 A bl (setR fk x.toNat y.toNat false) kvs := HS6.out.1.typed hon8 (fun k hk => by
          rcases List.mem_cons.1 hk with rfl | hk
          · exact ⟨_, _, H6.out.1.blk, by decide, by decide, by decide⟩
          · obtain ⟨cs, hb⟩ := typed_of H6.out.1.ext (mem_rowOf.1 hk)
            exact ⟨_, _, hb, by decide, by decide, by decide⟩)
        have R8 : Rd w8 base F3 (some ⟨g, 0, none⟩) ((sk.take 8).take 8) := H6.out.2.1.of hon8.size (fun b hb => hon8.block b (H6.out.2.1.under b hb) (fun hm => by
          have h1 := HP.out.2.2.2.2.2.2 b (H6.out.2.2.2.2.1 b hb)
          rcases List.mem_cons.1 hm with e | hm
          · have := HP.out.1; omega
          · have := hrow b hm; omega))
        have N8 : Only (g :: foot gp r fl) w0 w8 := H6.out.2.2.1.trans hon8 (fun k hk => by
          rcases List.mem_cons.1 hk with e | hk
          · exact .inr (by rw [e]; exact HP.out.1)
          · exact .inr (hrow k hk))
        rw [← hxt, ← hyt] at hall
        obtain ⟨hc1, hc2⟩ := okE_cnt hall
        have hlens : lens (es ++ [(x.toNat, y.toNat)]) = lens es + y.toNat := by simp [lens]
        have htk8 : tkE s.num.toNat (s.take 8) fl [] = tkE (N.toNat - (k + 1)) ((sk.take 8).take 8) (setR fk x.toNat y.toNat false) (es ++ [(x.toNat, y.toNat)]) := by
          rw [HK.out.1, HK.out.2.2.2.2.2.2.2.2.2.2.2.1, ← HXY.out.1, ← HXY.out.2, if_pos HS6.out.2]
        have hle8 : ((sk.take 8).take 8).bs.length ≤ s.bs.length := by
          have h1 := RD.take_le sk 8
          have h2 := RD.take_le (sk.take 8) 8
          have h3 := HK.out.2.2.2.2.2.2.2.2.2.2.1
          omega
        have hcnt8 : lens (es ++ [(x.toNat, y.toNat)]) + cnt (setR fk x.toNat y.toNat false) = cnt fl := by rw [hlens]; omega
        have hpos8 : ∀ e ∈ es ++ [(x.toNat, y.toNat)], 1 ≤ e.2 := fun e he => by
          rcases List.mem_append.1 he with he | he
          · exact HK.out.2.2.2.2.2.2.2.2.2.1 e he
          · simp at he; subst he; simp only; omega
        have hflen : (setR fk x.toNat y.toNat false).length = fl.length := hc2.trans HK.out.2.2.1
        rw [← hw8]
        have HFIN := Lib.hid (And.intro htk8 (And.intro S8 (And.intro hflen (And.intro O8 (And.intro hrow8 (And.intro R8 (And.intro H6.out.2.2.2.2.1 (And.intro N8 (And.intro hcnt8 (And.intro hpos8 hle8))))))))))
        clear htk8 S8 hflen O8 hrow8 R8 N8 hcnt8 hpos8 hle8 hlens hc1 hc2 hall hrow hown8 hone G8 hon8 hon78 hon7 hw8 hown hgr hor hTg hTe G7 E7 hx7 O7 K7 hE7 hb7 hbx hS HO hxa hyb hxt hyt hcn hel hcl
        go_wp2_with fail
        go_roundw
        case rel => exact ⟨k + 1, _, _, _, F3, ce2, E2, by go_num, .inr (by omega), HFIN.out⟩
        case measure => simp [intS]; omega
      -- Y}
      -- {Z
      · have hnone : tkE s.num.toNat (s.take 8) fl [] = none := by
          rw [HK.out.1, ← HXY.out.1, ← HXY.out.2, if_neg (by rw [hfr]; simp)]
        have HFIN := Lib.hid (show TkETo w0 base g go mb c gs ms gp r c1 D A bl fl kvs kv ⟨d, al, []⟩ F s (.returned (.bool false)) w6 from ⟨N6, .inl ⟨hnone, rfl⟩⟩)
        clear hnone O6 R6 N6 R5 hgsf hmsf K5 hgef hS HC hE5 hbx HCL S5 hb5 hw5 hs6 hfr ho6 hFk
        refine ⟨_, rfl, ⟨G6, K6⟩, ?_⟩
        simp only [Act.put, List.getElem_toArray, List.getElem_cons_succ, List.getElem_cons_zero, List.setIfInBounds_toArray, List.set_cons_zero, List.set_cons_succ]
        refine L_one (j := 7) (by kernel_rfl) rfl (by rfl) ?_
        simp only [Act.put, List.getElem_toArray, List.getElem_cons_succ, List.getElem_cons_zero, List.setIfInBounds_toArray, List.set_cons_zero, List.set_cons_succ]
        refine wp_ran (v := .bool true) (w' := w6) (by simp only [errV]; go_simp) ⟨⟨G6, K6⟩, ?_⟩
        simp only [Act.put, List.getElem_toArray, List.getElem_cons_succ, List.getElem_cons_zero, List.setIfInBounds_toArray, List.set_cons_zero, List.set_cons_succ]
        refine L_done (by kernel_rfl) ?_
        refine NoPanic.normal ?_
        clear G6 K6
        go_wp2
        go_ret
        exact HFIN.out
      -- Z}
    -- A}
    · have hdk : decide ((k : Int) < N) = false := decide_eq_false hlt
      have hj : N.toNat - k = 0 := by omega
      rw [hj, tkE] at htk
      have hel := len_lens hpos
      have hcl := cnt_le fl
      have HHAS := Lib.hid (has_any (w := wr) (g := go) (B := wr.heap.size) (es := es) (hOk.blk.cell 2) (OwnE.ext (by rw [natE_len]; exact hOk.ext)) (Nat.le_refl _) (by omega) (by omega))
      have HK := Lib.hid (And.intro htk (And.intro hSk (And.intro hfk (And.intro hOk (And.intro hRk (And.intro hFk (And.intro honk hle)))))))
      clear htk hSk hfk hOk hEk hRk hFk honk hcnt hpos hle hel hcl
      go_wp2_with fail
      refine HHAS.out.mono ?_
      rintro e w2 ⟨rfl, hb2⟩
      have O2 := HK.out.2.2.2.1.below hb2
      have HND := Lib.hid (needs_any (w := w2) (g := go) (O2.blk.cell 0) (by simp only; omega))
      have HFIN := Lib.hid (show TkETo w0 base g go mb c gs ms gp r c1 D A bl fl kvs kv ⟨d, al, []⟩ F s (.returned (.bool (decide (lens es = needsB d)))) w2 from ⟨HK.out.2.2.2.2.2.2.1.trans (Only.of_below hb2 []) (fun k hk => by cases hk), .inr ⟨es, fk, sk, ce', E', Fk, HK.out.1, rfl, HK.out.2.1.below hb2, HK.out.2.2.1, O2, HK.out.2.2.2.2.1.below hb2, HK.out.2.2.2.2.2.1, HK.out.2.2.2.2.2.2.2⟩⟩)
      clear O2 hb2 HHAS
      go_wp2_with fail
      refine HND.out.mono ?_
      rintro e w3 ⟨rfl, rfl⟩
      have hdec : ((lens es : Int) == ((d.length : Int) + 15) / 16) = decide (lens es = needsB d) := by
        unfold needsB
        rw [Bool.eq_iff_iff, beq_iff_eq, decide_eq_true_eq]
        omega
      go_wp2
      go_ret
      exact HFIN.out
end Go.Proofs.YtfbpfgbmlbkffaaGreat
