/-
  What is put of a view, a snapshot. Conditions: they read as they are said to ahead of the writer's making; the marks are such; the sizes.
-/
import Derived.Test.YtgddenhnpjoabaaEd

namespace Go.Proofs.Ytgddenhnpjoabaa
open Go.RowKit Go.BigFrame
set_option linter.unusedSimpArgs false
set_option linter.unusedVariables false
set_option maxRecDepth 100000
/-- the writer at g in wr; since wr0 only what is its own has turned; nothing below w1's end has -/
structure Wst (w1 wr0 wr : World) (F0 F : List Nat) (g : Nat) (L : List Nat) : Prop where
  wrt : Wr wr w1.heap.size F (some ⟨g, 0, none⟩) L
  bel : Below w1.heap.size w1 wr
  only : Only F0 wr0 wr
  fresh : Fresh wr0 F0 F
theorem Wst.then_ {w1 wr0 wr w2 : World} {F0 F : List Nat} {g : Nat} {L L' : List Nat} (h : Wst w1 wr0 wr F0 F g L) (ht : WTo wr w1.heap.size F (some ⟨g, 0, none⟩) L' w2) : ∃ F', Wst w1 wr0 w2 F0 F' g L' := by
  obtain ⟨F', h1, h2, h3⟩ := ht
  exact ⟨F', h1, h.bel.trans (h2.below h.wrt.over h.bel.size), h.only.trans h2 h.fresh, h.fresh.trans h3 h.only.size⟩
theorem Wst.next {w1 wr0 wr w2 : World} {F0 F : List Nat} {g : Nat} {L : List Nat} (h : Wst w1 wr0 wr F0 F g L) (hb : Below wr.heap.size wr w2) : Wst w1 wr0 w2 F0 F g L :=
  ⟨h.wrt.below hb, h.bel.trans (hb.mono h.bel.size), h.only.trans (Only.of_below hb F) h.fresh, h.fresh⟩
theorem Wst.keep {w1 wr0 wr : World} {F0 F : List Nat} {g k : Nat} {L : List Nat} {t : TypeId} {cs : Array Value} (h : Wst w1 wr0 wr F0 F g L) (hk : Blk wr0 k t cs) (hn : k ∉ F0) : Blk wr k t cs := hk.of (h.only.block k hk.lt hn)
theorem Wst.start {w1 wr : World} {F : List Nat} {g : Nat} {L : List Nat} (h : Wr wr w1.heap.size F (some ⟨g, 0, none⟩) L) (hb : Below w1.heap.size w1 wr) : Wst w1 wr wr F F g L := ⟨h, hb, Only.refl _ _, Fresh.refl _ _⟩
/-- a call has put these bytes more -/
def PutTo (w1 wr : World) (F : List Nat) (g : Nat) (L : List Nat) (w' : World) : Prop := ∃ F', Wst w1 wr w' F F' g L
theorem Wst.then2 {w1 wr0 wr w2 : World} {F0 F : List Nat} {g : Nat} {L L' : List Nat} (h : Wst w1 wr0 wr F0 F g L) (ht : PutTo w1 wr F g L' w2) : ∃ F', Wst w1 wr0 w2 F0 F' g L' := by
  obtain ⟨F', h2⟩ := ht
  exact ⟨F', h2.wrt, h2.bel, h.only.trans h2.only h.fresh, h.fresh.trans h2.fresh h.only.size⟩
theorem Strs.below {w w' : World} {B n : Nat} {A : Option Addr} {l : List (List Nat)} (h : Strs w B A n l) (hb : Below B w w') : Strs w' B A n l := ⟨h.1.below hb, h.2⟩
theorem far_reads {w1 w : World} {F : List Nat} (ho : Over w1.heap.size F) {n size : Nat} {A : Option Addr} {xs : List Value} (hr : Reads w1 w1.heap.size size A n xs) : ∀ a, A = some a → 0 < n → a.block ∉ F := by
  intro a ha hn hm
  obtain ⟨ad, e, hb, _⟩ := hr.2 hn
  rw [ha] at e
  injection e with e
  subst e
  have := ho a.block hm
  omega
theorem plus_some (g : Nat) (a b : List Nat) : plus (some ⟨g, 0, none⟩) a b = a ++ b := rfl
theorem run_index_n {P : Program} (n : Nat) (t e : TypeId) (cs : List Value) (j : Nat) (v : Value) (h : P.underlying t = some (.array n e)) (hi : (P.info? e).map (·.size) = some 1) (ha : ∀ w, (isAgg e).run P w = .ok false w) (hj : j < n) (hv : cs[j]? = some v) (w : World) :
    (Instr.index t (.agg cs.toArray) (.int .i64 j)).run P w = .ok v w := by
  cases hq : P.info? e with
  | none => simp [hq] at hi
  | some i0 =>
    have hi : i0.size = 1 := by simpa [hq] using hi
    have h6 : (j : Int) < (n : Int) := by omega
    simp [Instr.index, run_underlying h, asIntOf, h6, hj, ha, Result.andThen, sizeOf, typeInfo, hq, hi, hv, go_sem]
theorem i64_at {NS : List Int} {k : Nat} {x : Int} (h : NS[k]? = some x) : (NS.map (Value.int .i64))[k]? = some (.int .i64 x) := by rw [List.getElem?_map, h]; rfl
theorem take_snocI {α : Type} {l : List α} {k : Nat} {x : α} (h : l[k]? = some x) : l.take (k + 1) = l.take k ++ [x] := by rw [List.take_add_one, h]; rfl
theorem flat_numB_len : ∀ l : List Int, (l.flatMap numB).length = 8 * l.length
  | [] => rfl
  | x :: l => by rw [List.flatMap_cons, List.length_append, numB_len, flat_numB_len l, List.length_cons]; omega
theorem flat_txt_len : ∀ l : List (List Nat), (∀ c ∈ l, c.length ≤ 20) → (l.flatMap txt).length ≤ 28 * l.length
  | [], _ => by simp
  | c :: l, h => by
    have ih := flat_txt_len l fun x hx => h x (List.mem_cons_of_mem _ hx)
    have := h c (by simp)
    rw [List.flatMap_cons, List.length_append, txt_len, List.length_cons]
    omega
theorem putMk_len {m : MkV} (h : Good m.row) : (putMk m).length ≤ 80 := by
  have := putM_small h
  simp only [putMk, flagB, txt, List.length_append, List.length_singleton, numB_len]
  omega
set_option maxHeartbeats 8000000 in
theorem vput_any {w1 w : World} {F : List Nat} {g : Nat} {L : List Nat} (v : VA) (hv : v.R w1) (hS : v.Sm) (hg : Good v.row) (h : Wr w w1.heap.size F (some ⟨g, 0, none⟩) L) (hb : Below w1.heap.size w1 w) (hl : L.length ≤ 5000000) :
    Calls Try.prog 36 #[.agg v.cs, .pointer (some ⟨g, 0, none⟩)] w fun e w' => e = .returned (.tuple #[]) ∧ PutTo w1 w F g (L ++ putVw v.mk' v.lk) w' := by
  obtain ⟨w0, hw0⟩ : ∃ w0, w0 = w.alloc (.cells v.cs 82) := ⟨_, rfl⟩
  have hb0 : Below w.heap.size w w0 := by rw [hw0]; exact below_alloc w _
  have K0 : Blk w0 w.heap.size 82 #[.int .i64 v.size, .bool v.on, .bool v.good, .slice v.M v.row.length v.cm, .string (strOf v.par), .int .i64 v.ps, .int .i64 v.ov] := by rw [hw0]; exact Blk.new w _ _
  have hgF : w.heap.size ∉ F := fun hm => by have := h.under _ hm; omega
  have HS0 := Lib.hid ((Wst.start h hb).next hb0)
  have HK : Hid (∀ {wr F' L'}, Wst w1 w wr F F' g L' → Below w0.heap.size w0 wr ∨ True → True) := Lib.hid fun _ _ => trivial
  have HW0 : Hid (Wst w1 w0 w0 F F g L) := Lib.hid (Wst.start (h.below hb0) (hb.trans (hb0.mono hb.size)))
  have HX : Hid (∀ {wr F' L'}, Wst w1 w0 wr F F' g L' → Blk wr w.heap.size 82 #[.int .i64 v.size, .bool v.on, .bool v.good, .slice v.M v.row.length v.cm, .string (strOf v.par), .int .i64 v.ps, .int .i64 v.ov]) := Lib.hid fun hw => hw.keep K0 hgF
  have HV := Lib.hid hv
  have HG := Lib.hid hg
  have HSM := Lib.hid hS
  have HW := Lib.hid hw0
  have HB0 := Lib.hid hb0
  have x1 : w0.cell? ⟨w.heap.size, 1, none⟩ = some (.bool v.on) := K0.cell 1
  have hpl := hS.par
  clear hv hS hg h hb hw0 hb0 K0 hgF HK HS0
  unfold VA.cs at *
  go_enter Try.func36, Try.ntmps36
  go_upto_region 1 with (fail)
  rw [← HW.out]
  clear HW
  go_wp2_with fail
  refine (wflag_any w0 w1.heap.size _ _ _ v.on HW0.out.wrt (by omega) HW0.out.bel.size).mono ?_
  rintro e w2 ⟨rfl, ht⟩
  obtain ⟨F2, h2⟩ := HW0.out.then_ ht
  rw [plus_some] at h2
  have H2 := Lib.hid h2
  have x2 : w2.cell? ⟨w.heap.size, 2, none⟩ = some (.bool v.good) := (HX.out h2).cell 2
  clear ht h2 x1
  go_wp2_with fail
  refine (wflag_any w2 w1.heap.size _ _ _ v.good H2.out.wrt (by simp; omega) H2.out.bel.size).mono ?_
  rintro e w3 ⟨rfl, ht⟩
  obtain ⟨F3, h3⟩ := H2.out.then_ ht
  rw [plus_some] at h3
  have H3 := Lib.hid h3
  have x3 : w3.cell? ⟨w.heap.size, 3, none⟩ = some (.slice v.M v.row.length v.cm) := (HX.out h3).cell 3
  have HP := Lib.hid (put_ok v.M v.row.length v.cm v.row w3 ((HV.out.row.below h3.bel).more h3.bel.size) HG.out)
  clear ht h3 x2
  go_wp2_with fail
  refine HP.out.mono ?_
  rintro e w4 ⟨rfl, kp, b4⟩
  have hpl2 : (putM v.row).length = 2 + (v.row.length + 3) / 4 := putM_len _
  have hsm := putM_small HG.out
  have HPB : Hid (Bytes w4 w4.heap.size (some ⟨w3.heap.size, 0, none⟩) (2 + (v.row.length + 3) / 4) (putM v.row)) := Lib.hid (by
    refine ⟨⟨by rw [u8s_length]; omega, fun _ => ⟨_, rfl, kp.lt, fun j u hu => ?_⟩⟩, putM_lt HG.out⟩
    rw [add_zero_off, kp.cell]
    simpa using hu)
  have H4 := Lib.hid (H3.out.next b4)
  have HF3 : Hid (w3.heap.size ∉ F3) := Lib.hid fun hm => by have := H3.out.wrt.under _ hm; omega
  clear kp b4 HP x3
  go_wp2_with fail
  refine (wbytes_any w4 w1.heap.size _ _ _ (putM v.row) _ _ _ _ H4.out.wrt HPB.out (fun a ha _ => by injection ha with ha; subst ha; exact HF3.out) (by simp; omega) H4.out.bel.size).mono ?_
  rintro e w5 ⟨rfl, ht⟩
  obtain ⟨F5, h5⟩ := H4.out.then_ ht
  rw [plus_some] at h5
  have H5 := Lib.hid h5
  have x4 : w5.cell? ⟨w.heap.size, 4, none⟩ = some (.string (strOf v.par)) := (HX.out h5).cell 4
  clear ht h5 HPB HF3
  go_wp2_with fail
  refine (wtext_any w5 w1.heap.size _ _ _ v.par H5.out.wrt HV.out.par (by simp [numB_len]; omega) H5.out.bel.size).mono ?_
  rintro e w6 ⟨rfl, ht⟩
  obtain ⟨F6, h6⟩ := H5.out.then_ ht
  rw [plus_some] at h6
  have x5 : w6.cell? ⟨w.heap.size, 5, none⟩ = some (.int .i64 v.ps) := (HX.out h6).cell 5
  have x6 : w6.cell? ⟨w.heap.size, 6, none⟩ = some (.int .i64 v.ov) := (HX.out h6).cell 6
  obtain ⟨M, hM⟩ : ∃ M, M = L ++ [if v.on = true then 1 else 0] ++ [if v.good = true then 1 else 0] ++ (numB ↑(2 + (v.row.length + 3) / 4) ++ putM v.row) ++ (numB ↑v.par.length ++ v.par) := ⟨_, rfl⟩
  rw [← hM] at h6
  have hml : M.length ≤ 7000000 := by rw [hM]; simp [numB_len]; omega
  have H6 := Lib.hid h6
  have HM := Lib.hid hM
  clear ht h6 hM
  go_wp2
  clear x5 x6
  go_loopw [37] (fun i wr => ∃ (k : Nat) (F' : List Nat), k ≤ 2 ∧ i = .int .i64 k ∧ Wst w1 w0 wr F F' g (M ++ (([v.ps, v.ov] : List Int).take k).flatMap numB)) (fun i _ => 2 - (intOf i).toNat)
  case atStart => exact ⟨0, F6, by omega, rfl, by simpa using H6.out⟩
  case round =>
    obtain ⟨k, F', hk, rfl, hst⟩ := hrel
    have HST := Lib.hid hst
    clear hst
    have hwk : IntKind.i64.wrap ((k : Int) + 1) = (k : Int) + 1 := by rw [IntKind.wrap_i64]; omega
    have htl : (([v.ps, v.ov] : List Int).take k).length ≤ 2 := by rw [List.length_take]; simp; omega
    have hfl := flat_numB_len (([v.ps, v.ov] : List Int).take k)
    have HFL : Hid ((M ++ (([v.ps, v.ov] : List Int).take k).flatMap numB).length ≤ 8500000) := Lib.hid (by rw [List.length_append, hfl]; first | omega | (simp only [List.length_nil]; omega))
    clear hfl htl
    by_cases hlt : k < 2
    · obtain ⟨x, hx⟩ : ∃ x, ([v.ps, v.ov] : List Int)[k]? = some x := ⟨_, List.getElem?_eq_getElem (by simpa using hlt)⟩
      have hix := run_index_n (P := Try.prog) 2 131 3 (([v.ps, v.ov] : List Int).map (Value.int .i64)) k (.int .i64 x) Try.underlying131 (by kernel_rfl) (fun w => by kernel_rfl) hlt (i64_at hx) wr
      simp only [List.map_cons, List.map_nil] at hix
      have HX2 := Lib.hid (take_snocI hx)
      clear hx
      go_wp2_with fail
      refine (wnum_any wr w1.heap.size _ _ _ x HST.out.wrt (by have := HFL.out; omega) HST.out.bel.size).mono ?_
      rintro e w7 ⟨rfl, ht⟩
      obtain ⟨F7, h7⟩ := HST.out.then_ ht
      rw [plus_some, List.append_assoc] at h7
      have H7 := Lib.hid h7
      clear ht h7
      go_wp2
      go_roundw
      case rel => exact ⟨k + 1, F7, by omega, by go_num, by rw [HX2.out, List.flatMap_append]; simpa using H7.out⟩
      case measure => simp [intOf]; omega
    · have hkn : k = 2 := by omega
      have d9 : decide ((k : Int) < 2) = false := decide_eq_false (by omega)
      have hq0 := HST.out
      have hf0 := HFL.out
      rw [hkn] at hq0 hf0
      have HQ0 := Lib.hid hq0
      have HF0 := Lib.hid hf0
      clear hq0 hf0 hkn HST HFL
      go_wp2
      refine bodyPost_end (results_none rfl _ _ _) rfl ?_
      have q := HQ0.out
      have e : L ++ putVw v.mk' v.lk = M ++ (([v.ps, v.ov] : List Int).take 2).flatMap numB := by
        have e3 : ([v.ps, v.ov] : List Int).take 2 = [v.ps, v.ov] := rfl
        rw [HM.out, e3]
        simp only [putVw, putMk, putLk, txt, flagB, VA.mk', VA.lk, hpl2, List.append_assoc, List.flatMap_cons, List.flatMap_nil, List.append_nil]
        rfl
      rw [e]
      exact ⟨rfl, F', q.wrt, q.bel, (Only.of_below HB0.out F).trans q.only (Fresh.refl _ _), fun x hx => (q.fresh x hx).imp id (Nat.le_trans HB0.out.size)⟩
set_option maxHeartbeats 8000000 in
theorem sput_any {w1 w : World} {F : List Nat} {g : Nat} {L : List Nat} (s : SA) (hs : s.R w1) (hS : s.Sm) (hg : Good s.vw.row) (hsz : s.ch.length ≤ 10000) (hcl : ∀ c ∈ s.ch, c.length ≤ 20) (h : Wr w w1.heap.size F (some ⟨g, 0, none⟩) L) (hb : Below w1.heap.size w1 w) (hl : L.length ≤ 4500000) (hnl : s.name.length ≤ 20) (hpl : s.vw.par.length ≤ 20) :
    Calls Try.prog 34 #[.agg s.cells.toArray, .pointer (some ⟨g, 0, none⟩)] w fun e w' => e = .returned (.tuple #[]) ∧ PutTo w1 w F g (L ++ putSn s.v) w' := by
  obtain ⟨w0, hw0⟩ : ∃ w0, w0 = w.alloc (.cells s.cells.toArray 66) := ⟨_, rfl⟩
  have hb0 : Below w.heap.size w w0 := by rw [hw0]; exact below_alloc w _
  have K0 : Blk w0 w.heap.size 66 #[.int .i64 s.num, .int .i64 s.vw.size, .string (strOf s.name), .bool s.vw.on, .bool s.vw.good, .bool s.prot, .slice s.vw.M s.vw.row.length s.vw.cm, .string (strOf s.vw.par), .int .i64 s.vw.ps, .int .i64 s.vw.ov, .slice s.C s.ch.length s.cc] := by rw [hw0]; exact Blk.new w _ _
  have hgF : w.heap.size ∉ F := fun hm => by have := h.under _ hm; omega
  have HW0 : Hid (Wst w1 w0 w0 F F g L) := Lib.hid (Wst.start (h.below hb0) (hb.trans (hb0.mono hb.size)))
  have HX : Hid (∀ {wr F' L'}, Wst w1 w0 wr F F' g L' → Blk wr w.heap.size 66 #[.int .i64 s.num, .int .i64 s.vw.size, .string (strOf s.name), .bool s.vw.on, .bool s.vw.good, .bool s.prot, .slice s.vw.M s.vw.row.length s.vw.cm, .string (strOf s.vw.par), .int .i64 s.vw.ps, .int .i64 s.vw.ov, .slice s.C s.ch.length s.cc]) := Lib.hid fun hw => hw.keep K0 hgF
  have HV := Lib.hid hs
  have HG := Lib.hid hg
  have HSM := Lib.hid hS
  have HW := Lib.hid hw0
  have HB0 := Lib.hid hb0
  have HCL := Lib.hid hcl
  have x0 : w0.cell? ⟨w.heap.size, 0, none⟩ = some (.int .i64 s.num) := K0.cell 0
  have hrl := hg.1
  clear hs hS hg h hb hw0 hb0 K0 hgF hcl
  unfold SA.cells at *
  go_enter Try.func34, Try.ntmps34
  go_upto_region 1 with (fail)
  rw [← HW.out]
  clear HW
  go_wp2_with fail
  refine (wnum_any w0 w1.heap.size _ _ _ s.num HW0.out.wrt (by omega) HW0.out.bel.size).mono ?_
  rintro e w2 ⟨rfl, ht⟩
  obtain ⟨F2, h2⟩ := HW0.out.then_ ht
  rw [plus_some] at h2
  have H2 := Lib.hid h2
  have x2 : w2.cell? ⟨w.heap.size, 2, none⟩ = some (.string (strOf s.name)) := (HX.out h2).cell 2
  clear ht h2 x0
  go_wp2_with fail
  refine (wtext_any w2 w1.heap.size _ _ _ s.name H2.out.wrt HV.out.name (by simp [numB_len]; omega) H2.out.bel.size).mono ?_
  rintro e w3 ⟨rfl, ht⟩
  obtain ⟨F3, h3⟩ := H2.out.then_ ht
  rw [plus_some] at h3
  have H3 := Lib.hid h3
  have x1 : w3.cell? ⟨w.heap.size, 1, none⟩ = some (.int .i64 s.vw.size) := (HX.out h3).cell 1
  clear ht h3 x2
  go_wp2_with fail
  refine (wnum_any w3 w1.heap.size _ _ _ s.vw.size H3.out.wrt (by simp [numB_len]; omega) H3.out.bel.size).mono ?_
  rintro e w4 ⟨rfl, ht⟩
  obtain ⟨F4, h4⟩ := H3.out.then_ ht
  rw [plus_some] at h4
  obtain ⟨M, hM⟩ : ∃ M, M = L ++ numB s.num ++ (numB ↑s.name.length ++ s.name) ++ numB s.vw.size := ⟨_, rfl⟩
  rw [← hM] at h4
  have hml : M.length ≤ 4500100 := by rw [hM]; simp [numB_len]; omega
  have HM := Lib.hid hM
  have H4 := Lib.hid h4
  have K4 := HX.out h4
  have y0 : w4.cell? ⟨w.heap.size, 0, none⟩ = some (.int .i64 s.num) := K4.cell 0
  have y1 : w4.cell? ⟨w.heap.size, 1, none⟩ = some (.int .i64 s.vw.size) := K4.cell 1
  have y2 : w4.cell? ⟨w.heap.size, 2, none⟩ = some (.string (strOf s.name)) := K4.cell 2
  have y3 : w4.cell? ⟨w.heap.size, 3, none⟩ = some (.bool s.vw.on) := K4.cell 3
  have y4 : w4.cell? ⟨w.heap.size, 4, none⟩ = some (.bool s.vw.good) := K4.cell 4
  have y5 : w4.cell? ⟨w.heap.size, 5, none⟩ = some (.bool s.prot) := K4.cell 5
  have y6 : w4.cell? ⟨w.heap.size, 6, none⟩ = some (.slice s.vw.M s.vw.row.length s.vw.cm) := K4.cell 6
  have y7 : w4.cell? ⟨w.heap.size, 7, none⟩ = some (.string (strOf s.vw.par)) := K4.cell 7
  have y8 : w4.cell? ⟨w.heap.size, 8, none⟩ = some (.int .i64 s.vw.ps) := K4.cell 8
  have y9 : w4.cell? ⟨w.heap.size, 9, none⟩ = some (.int .i64 s.vw.ov) := K4.cell 9
  have y10 : w4.cell? ⟨w.heap.size, 10, none⟩ = some (.slice s.C s.ch.length s.cc) := K4.cell 10
  have HVW := Lib.hid (sview_any s w4)
  unfold SA.cells at HVW
  clear ht h4 hM K4 x1
  go_wp2_with fail
  refine HVW.out.mono ?_
  rintro e w5 ⟨rfl, b5⟩
  have H5 := Lib.hid (H4.out.next b5)
  clear b5 HVW y0 y1 y2 y3 y4 y5 y6 y7 y8 y9 y10
  go_wp2_with fail
  refine (vput_any s.vw HV.out.vw HSM.out.vw HG.out H5.out.wrt H5.out.bel (by omega)).mono ?_
  rintro e w6 ⟨rfl, ht⟩
  obtain ⟨F6, h6⟩ := H5.out.then2 ht
  have H6 := Lib.hid h6
  have x5 : w6.cell? ⟨w.heap.size, 5, none⟩ = some (.bool s.prot) := (HX.out h6).cell 5
  have HPV : Hid ((putVw s.vw.mk' s.vw.lk).length ≤ 200) := Lib.hid (by
    have := putMk_len (m := s.vw.mk') HG.out
    have h1 : (putLk s.vw.lk).length = 8 + s.vw.par.length + 16 := by simp only [putLk, txt, List.length_append, numB_len]; rfl
    rw [putVw, List.length_append]
    omega)
  clear ht h6
  go_wp2_with fail
  refine (wflag_any w6 w1.heap.size _ _ _ s.prot H6.out.wrt (by have := HPV.out; rw [List.length_append]; omega) H6.out.bel.size).mono ?_
  rintro e w7 ⟨rfl, ht⟩
  obtain ⟨F7, h7⟩ := H6.out.then_ ht
  rw [plus_some] at h7
  have H7 := Lib.hid h7
  have x10 : w7.cell? ⟨w.heap.size, 10, none⟩ = some (.slice s.C s.ch.length s.cc) := (HX.out h7).cell 10
  clear ht h7 x5
  go_wp2_with fail
  refine (wnum_any w7 w1.heap.size _ _ _ s.ch.length H7.out.wrt (by have := HPV.out; simp; omega) H7.out.bel.size).mono ?_
  rintro e w8 ⟨rfl, ht⟩
  obtain ⟨F8, h8⟩ := H7.out.then_ ht
  rw [plus_some] at h8
  obtain ⟨N, hN⟩ : ∃ N, N = M ++ putVw s.vw.mk' s.vw.lk ++ [if s.prot = true then 1 else 0] ++ numB s.ch.length := ⟨_, rfl⟩
  rw [← hN] at h8
  have hnl2 : N.length ≤ 4500400 := by have := HPV.out; rw [hN]; simp [numB_len]; omega
  have HN := Lib.hid hN
  have H8 := Lib.hid h8
  have x10 : w8.cell? ⟨w.heap.size, 10, none⟩ = some (.slice s.C s.ch.length s.cc) := (HX.out h8).cell 10
  clear ht h8 hN
  go_wp2
  clear x10
  go_loopw [34] (fun i wr => ∃ (k : Nat) (F' : List Nat), k ≤ s.ch.length ∧ i = .int .i64 k ∧ Wst w1 w0 wr F F' g (N ++ (s.ch.take k).flatMap txt)) (fun i _ => s.ch.length - (intOf i).toNat)
  case atStart => exact ⟨0, F8, by omega, rfl, by simpa using H8.out⟩
  case round =>
    obtain ⟨k, F', hk, rfl, hst⟩ := hrel
    have HST := Lib.hid hst
    have hwk : IntKind.i64.wrap ((k : Int) + 1) = (k : Int) + 1 := by rw [IntKind.wrap_i64]; omega
    clear hst
    by_cases hlt : k < s.ch.length
    · obtain ⟨ad, c, had, hck, hc2, hcell⟩ := ((HV.out.ch.below HST.out.bel)).at_ hlt
      have hc20 := HCL.out c (List.mem_of_getElem? hck)
      have HX2 := Lib.hid (take_snocI hck)
      have HC2 := Lib.hid hc2
      have HLN : Hid ((N ++ (s.ch.take k).flatMap txt).length ≤ 4900000) := Lib.hid (by
        have := flat_txt_len (s.ch.take k) (fun c hc => HCL.out c (List.mem_of_mem_take hc))
        rw [List.length_take] at this
        rw [List.length_append]
        omega)
      generalize s.C = sC at *
      subst had
      clear hck hc2
      go_wp2_with fail
      refine (wtext_any wr w1.heap.size _ _ _ c HST.out.wrt HC2.out (by have := HLN.out; omega) HST.out.bel.size).mono ?_
      rintro e w9 ⟨rfl, ht⟩
      obtain ⟨F9, h9⟩ := HST.out.then_ ht
      rw [plus_some, List.append_assoc] at h9
      have H9 := Lib.hid h9
      clear ht h9
      go_wp2
      go_roundw
      case rel => exact ⟨k + 1, F9, by omega, by go_num, by rw [HX2.out, List.flatMap_append]; simpa [txt] using H9.out⟩
      case measure => simp [intOf]; omega
    · obtain rfl : k = s.ch.length := by omega
      go_wp2
      refine bodyPost_end (results_none rfl _ _ _) rfl ?_
      have q := HST.out
      rw [List.take_length] at q
      have e : L ++ putSn s.v = N ++ s.ch.flatMap txt := by
        rw [HN.out, HM.out]
        simp only [putSn, txt, flagB, SA.v, List.append_assoc]
        rfl
      rw [e]
      exact ⟨rfl, F', q.wrt, q.bel, (Only.of_below HB0.out F).trans q.only (Fresh.refl _ _), fun x hx => (q.fresh x hx).imp id (Nat.le_trans HB0.out.size)⟩
end Go.Proofs.Ytgddenhnpjoabaa

/-
  Put of heads. Conditions: the head reads as it is said to, and is small.
-/
namespace Go.Proofs.Ytgddenhnpjoabaa
open Go.RowKit Go.BigFrame
set_option linter.unusedSimpArgs false
set_option linter.unusedVariables false
set_option maxRecDepth 100000
theorem Wr.made9 (w : World) : Wr (w.alloc (.cells #[.slice none 0 0] 77)) w.heap.size [w.heap.size] (some ⟨w.heap.size, 0, none⟩) [] :=
  .inr ⟨w.heap.size, rfl, .slice none 0 0, rfl, Blk.new w _ _, Own.nil _ _, Nat.le_refl _, fun b hb => by cases hb⟩
theorem writer_zero9 (w : World) : (zeroValue 77).run Try.prog w = .ok (.agg #[.slice none 0 0]) w := by kernel_rfl
theorem viewB_row {size obj : Int} {m : MkV} {l : LkV} (h : viewB size obj m l = true) : Good m.row ∧ l.par.length ≤ 20 := by
  unfold viewB at h
  simp only [Bool.and_eq_true] at h
  obtain ⟨⟨_, hm⟩, hl⟩ := h
  constructor
  · unfold MkV.B at hm
    split at hm
    · simp only [Bool.and_eq_true, decide_eq_true_eq] at hm; exact hm.1
    · simp only [Bool.and_eq_true, List.isEmpty_iff] at hm; rw [hm.1]; exact ⟨by simp, by simp⟩
  · unfold LkV.B at hl
    split at hl
    · rename_i he; rw [List.isEmpty_iff.1 he]; simp
    · simp only [Bool.and_eq_true] at hl; exact (named_len hl.1.1.1).2
theorem upB_named : ∀ (l : List (List Nat)) (last : List Nat), upB last l = true → ∀ c ∈ l, namedB c = true
  | [], _, _, c, hc => by cases hc
  | x :: l, last, h, c, hc => by
    rw [upB, Bool.and_eq_true, Bool.and_eq_true] at h
    rcases List.mem_cons.1 hc with rfl | hc
    · exact h.1.1
    · exact upB_named l x h.2 c hc
structure SnG (s : SnV) : Prop where
  row : Good s.mx.row
  par : s.lk.par.length ≤ 20
  name : namedB s.name = true
  ch : ∀ c ∈ s.ch, namedB c = true
theorem snapsB_good (obj seq : Int) : ∀ (l : List SnV) (last : Int), snapsB obj seq last l = true → ∀ s ∈ l, SnG s
  | [], _, _, s, hs => by cases hs
  | x :: l, last, h, s, hs => by
    rw [snapsB, Bool.and_eq_true] at h
    rcases List.mem_cons.1 hs with rfl | hs
    · have h1 := h.1
      unfold snapB at h1
      simp only [Bool.and_eq_true] at h1
      obtain ⟨⟨⟨_, hn⟩, hv⟩, hc⟩ := h1
      have h2 := viewB_row hv
      refine ⟨h2.1, h2.2, hn, ?_⟩
      unfold SnV.chB at hc
      rw [Bool.and_eq_true] at hc
      exact upB_named _ _ hc.1
    · exact snapsB_good obj seq l x.num h.2 s hs
structure HdG (h : HdV) : Prop where
  row : Good h.mx.row
  par : h.lk.par.length ≤ 20
  cn : h.sn.length ≤ 16
  sn : ∀ s ∈ h.sn, SnG s
theorem HdV.B_good {h : HdV} (hB : h.B = true) : HdG h := by
  unfold HdV.B at hB
  simp only [Bool.and_eq_true] at hB
  obtain ⟨⟨⟨⟨⟨_, hv⟩, hs⟩, _⟩, _⟩, _⟩ := hB
  have h2 := viewB_row hv
  unfold HdV.snB at hs
  simp only [Bool.and_eq_true, decide_eq_true_eq] at hs
  exact ⟨h2.1, h2.2, hs.1.1, snapsB_good _ _ _ _ hs.1.2⟩
theorem putSn_len {s : SnV} (h : SnG s) (hc : s.ch.length ≤ 10000) : (putSn s).length ≤ 280400 := by
  have h1 := putMk_len h.row
  have h2 : (putLk s.lk).length = 8 + s.lk.par.length + 16 := by simp only [putLk, txt, List.length_append, numB_len]
  have h3 := named_len h.name
  have h4 := flat_txt_len s.ch (fun c hc => (named_len (h.ch c hc)).2)
  have h5 := h.par
  simp only [putSn, putVw, flagB, List.length_append, List.length_singleton, numB_len, txt_len]
  omega
theorem flat_put_len : ∀ l : List SnV, (∀ s ∈ l, SnG s ∧ s.ch.length ≤ 10000) → (l.flatMap putSn).length ≤ 280400 * l.length
  | [], _ => by simp
  | s :: l, h => by
    have ih := flat_put_len l fun x hx => h x (List.mem_cons_of_mem _ hx)
    have := putSn_len (h s (by simp)).1 (h s (by simp)).2
    rw [List.flatMap_cons, List.length_append, List.length_cons]
    omega
def HPutTo (w : World) (v : HdV) (e : Ending) (w' : World) : Prop :=
  Below w.heap.size w w' ∧ ((v.B = true ∧ ∃ p, e = .returned (.tuple #[p, .nilIface]) ∧ Own w' w.heap.size p v.put.length v.put) ∨ (v.B = false ∧ e = .returned (.tuple #[.slice none 0 0, errV 2])))
set_option maxHeartbeats 16000000 in
theorem hput_any {w : World} (h : HA) (hR : h.R SA.cells w) (hS : h.Sm) : Calls Try.prog 11 #[.agg h.cs] w (HPutTo w h.v) := by
  obtain ⟨w0, hw0⟩ : ∃ w0, w0 = w.alloc (.cells h.cs 36) := ⟨_, rfl⟩
  have hb0 : Below w.heap.size w w0 := by rw [hw0]; exact below_alloc w _
  have HZ0 : w0.heap.size = w.heap.size + 1 := by rw [hw0]; simp
  have K0 : Blk w0 w.heap.size 36 #[.int .i64 h.id, .int .i64 h.vw.size, .int .i64 h.obj, .int .i64 h.seq, .slice h.S h.sn.length h.cs', .bool h.vw.on, .bool h.vw.good, .slice h.vw.M h.vw.row.length h.vw.cm, .string (strOf h.vw.par), .int .i64 h.vw.ps, .int .i64 h.vw.ov, .int .i64 h.ow, .int .i64 h.it, .int .i64 h.tg] := by rw [hw0]; exact Blk.new w _ _
  have HGD := Lib.hid (good_head h w0 (hR.since hb0) hS)
  have HR := Lib.hid hR
  have HSM := Lib.hid hS
  have HW := Lib.hid hw0
  have HB0 := Lib.hid hb0
  have HK0 := Lib.hid K0
  have x0 : w0.cell? ⟨w.heap.size, 0, none⟩ = some (.int .i64 h.id) := (K0).cell 0
  have x1 : w0.cell? ⟨w.heap.size, 1, none⟩ = some (.int .i64 h.vw.size) := (K0).cell 1
  have x2 : w0.cell? ⟨w.heap.size, 2, none⟩ = some (.int .i64 h.obj) := (K0).cell 2
  have x3 : w0.cell? ⟨w.heap.size, 3, none⟩ = some (.int .i64 h.seq) := (K0).cell 3
  have x4 : w0.cell? ⟨w.heap.size, 4, none⟩ = some (.slice h.S h.sn.length h.cs') := (K0).cell 4
  have x5 : w0.cell? ⟨w.heap.size, 5, none⟩ = some (.bool h.vw.on) := (K0).cell 5
  have x6 : w0.cell? ⟨w.heap.size, 6, none⟩ = some (.bool h.vw.good) := (K0).cell 6
  have x7 : w0.cell? ⟨w.heap.size, 7, none⟩ = some (.slice h.vw.M h.vw.row.length h.vw.cm) := (K0).cell 7
  have x8 : w0.cell? ⟨w.heap.size, 8, none⟩ = some (.string (strOf h.vw.par)) := (K0).cell 8
  have x9 : w0.cell? ⟨w.heap.size, 9, none⟩ = some (.int .i64 h.vw.ps) := (K0).cell 9
  have x10 : w0.cell? ⟨w.heap.size, 10, none⟩ = some (.int .i64 h.vw.ov) := (K0).cell 10
  have x11 : w0.cell? ⟨w.heap.size, 11, none⟩ = some (.int .i64 h.ow) := (K0).cell 11
  have x12 : w0.cell? ⟨w.heap.size, 12, none⟩ = some (.int .i64 h.it) := (K0).cell 12
  have x13 : w0.cell? ⟨w.heap.size, 13, none⟩ = some (.int .i64 h.tg) := (K0).cell 13
  have hzw := writer_zero9
  clear hR hS hw0 hb0 K0
  unfold HA.cs at *
  go_enter Try.func11, Try.ntmps11
  go_upto_region 1 with (fail)
  rw [← HW.out]
  clear HW
  go_wp2_with fail
  refine HGD.out.mono ?_
  rintro e w1 ⟨rfl, b1⟩
  have HB1 := Lib.hid (HB0.out.trans (b1.mono HB0.out.size))
  have HK1 := Lib.hid (HK0.out.of (b1.block _ HK0.out.lt))
  have HR1 := Lib.hid (HR.out.since HB1.out)
  clear b1 HGD x0 x1 x2 x3 x4 x5 x6 x7 x8 x9 x10 x11 x12 x13
  cases hB : h.v.B with
  | false =>
    have HN := Lib.hid hB
    clear hB
    go_wp2
    go_ret2
    exact ⟨HB1.out, .inr ⟨HN.out, rfl⟩⟩
  | true =>
    have HN := Lib.hid hB
    have HG := Lib.hid (HdV.B_good hB)
    have hcn : h.sn.length ≤ 16 := by have := HG.out.cn; simpa [HA.v] using this
    clear hB
    obtain ⟨wA, hwA⟩ : ∃ wA, wA = w1.alloc (.cells #[.slice none 0 0] 77) := ⟨_, rfl⟩
    have hbA : Below w1.heap.size w1 wA := by rw [hwA]; exact below_alloc w1 _
    obtain ⟨g, hg⟩ : ∃ g, g = w1.heap.size := ⟨_, rfl⟩
    have HWA : Hid (Wst w1 wA wA [g] [g] g []) := Lib.hid (Wst.start (by rw [hwA, hg]; exact Wr.made9 w1) hbA)
    have HX : Hid (∀ {wr F' L'}, Wst w1 wA wr [g] F' g L' → Blk wr w.heap.size 36 #[.int .i64 h.id, .int .i64 h.vw.size, .int .i64 h.obj, .int .i64 h.seq, .slice h.S h.sn.length h.cs', .bool h.vw.on, .bool h.vw.good, .slice h.vw.M h.vw.row.length h.vw.cm, .string (strOf h.vw.par), .int .i64 h.vw.ps, .int .i64 h.vw.ov, .int .i64 h.ow, .int .i64 h.it, .int .i64 h.tg]) := Lib.hid fun hs => HK1.out.of (hs.bel.block _ HK1.out.lt)
    have KA := HX.out HWA.out
    have x0 : wA.cell? ⟨w.heap.size, 0, none⟩ = some (.int .i64 h.id) := (KA).cell 0
    have x1 : wA.cell? ⟨w.heap.size, 1, none⟩ = some (.int .i64 h.vw.size) := (KA).cell 1
    have x2 : wA.cell? ⟨w.heap.size, 2, none⟩ = some (.int .i64 h.obj) := (KA).cell 2
    have x3 : wA.cell? ⟨w.heap.size, 3, none⟩ = some (.int .i64 h.seq) := (KA).cell 3
    have x4 : wA.cell? ⟨w.heap.size, 4, none⟩ = some (.slice h.S h.sn.length h.cs') := (KA).cell 4
    have HW2 := Lib.hid (And.intro hwA hg)
    clear KA hbA hwA hg
    go_upto_region 4 with (fail)
    rw [← HW2.out.1, ← HW2.out.2]
    clear HW2
    go_wp2
    clear x0 x1 x2 x3 x4
    go_loopw [29] (fun i wr => ∃ (k : Nat) (F' : List Nat), k ≤ 5 ∧ i = .int .i64 k ∧ Wst w1 wA wr [g] F' g ([] ++ (([h.id, h.vw.size, h.obj, h.seq, (h.sn.length : Int)] : List Int).take k).flatMap numB)) (fun i _ => 5 - (intOf i).toNat)
    case atStart => exact ⟨0, [g], by omega, rfl, by simpa using HWA.out⟩
    case round =>
      obtain ⟨k, F', hk, rfl, hst⟩ := hrel
      have HST := Lib.hid hst
      clear hst
      have hwk : IntKind.i64.wrap ((k : Int) + 1) = (k : Int) + 1 := by rw [IntKind.wrap_i64]; omega
      have htl : (([h.id, h.vw.size, h.obj, h.seq, (h.sn.length : Int)] : List Int).take k).length ≤ 5 := by rw [List.length_take]; simp; omega
      have hfl := flat_numB_len (([h.id, h.vw.size, h.obj, h.seq, (h.sn.length : Int)] : List Int).take k)
      have HFL : Hid (([] ++ (([h.id, h.vw.size, h.obj, h.seq, (h.sn.length : Int)] : List Int).take k).flatMap numB).length ≤ 8500000) := Lib.hid (by rw [List.length_append, hfl]; first | omega | (simp only [List.length_nil]; omega))
      clear hfl htl
      by_cases hlt : k < 5
      · obtain ⟨x, hx⟩ : ∃ x, ([h.id, h.vw.size, h.obj, h.seq, (h.sn.length : Int)] : List Int)[k]? = some x := ⟨_, List.getElem?_eq_getElem (by simpa using hlt)⟩
        have hix := run_index_n (P := Try.prog) 5 78 3 (([h.id, h.vw.size, h.obj, h.seq, (h.sn.length : Int)] : List Int).map (Value.int .i64)) k (.int .i64 x) Try.underlying78 (by kernel_rfl) (fun w => by kernel_rfl) hlt (i64_at hx) wr
        simp only [List.map_cons, List.map_nil] at hix
        have HX2 := Lib.hid (take_snocI hx)
        clear hx
        go_wp2_with fail
        refine (wnum_any wr w1.heap.size _ _ _ x HST.out.wrt (by have := HFL.out; omega) HST.out.bel.size).mono ?_
        rintro e w7 ⟨rfl, ht⟩
        obtain ⟨F7, h7⟩ := HST.out.then_ ht
        rw [plus_some, List.append_assoc] at h7
        have H7 := Lib.hid h7
        clear ht h7
        go_wp2
        go_roundw
        case rel => exact ⟨k + 1, F7, by omega, by go_num, by rw [HX2.out, List.flatMap_append]; simpa using H7.out⟩
        case measure => simp [intOf]; omega
      · have hkn : k = 5 := by omega
        have d9 : decide ((k : Int) < 5) = false := decide_eq_false (by omega)
        have hq0 := HST.out
        have hf0 := HFL.out
        rw [hkn] at hq0 hf0
        have HQ0 := Lib.hid hq0
        have HF0 := Lib.hid hf0
        clear hq0 hf0 hkn HST HFL
        go_upto_region 9 with (fail)
        have q := HQ0.out
        obtain ⟨M, hM⟩ : ∃ M, M = [] ++ (([h.id, h.vw.size, h.obj, h.seq, (h.sn.length : Int)] : List Int).take 5).flatMap numB := ⟨_, rfl⟩
        rw [← hM] at q
        have hml : M.length ≤ 40 := by rw [hM, List.nil_append, flat_numB_len]; simp
        have HM := Lib.hid hM
        have HQ := Lib.hid q
        have x4 : wr.cell? ⟨w.heap.size, 4, none⟩ = some (.slice h.S h.sn.length h.cs') := (HX.out q).cell 4
        clear q hM HQ0 HF0
        rename World => wq
        go_wp2
        clear x4
        go_loopw [39] (fun i wr => ∃ (k : Nat) (F' : List Nat), k ≤ h.sn.length ∧ i = .int .i64 k ∧ Wst w1 wA wr [g] F' g (M ++ ((h.sn.map SA.v).take k).flatMap putSn)) (fun i _ => h.sn.length - (intOf i).toNat)
        case atStart => exact ⟨0, F', by omega, rfl, by simpa using HQ.out⟩
        case round =>
          clear HQ
          obtain ⟨k, F', hk, rfl, hst⟩ := hrel
          have HST := Lib.hid hst
          have hwk : IntKind.i64.wrap ((k : Int) + 1) = (k : Int) + 1 := by rw [IntKind.wrap_i64]; omega
          have HLN : Hid ((M ++ ((h.sn.map SA.v).take k).flatMap putSn).length ≤ 4500000) := Lib.hid (by
            have := flat_put_len ((h.sn.map SA.v).take k) (fun s hs => by
              have hs2 := List.mem_of_mem_take hs
              obtain ⟨a, ha, rfl⟩ := List.mem_map.1 hs2
              exact ⟨HG.out.sn _ hs2, (HSM.out.sn a ha).ch⟩)
            rw [List.length_take, List.length_map] at this
            rw [List.length_append]
            omega)
          clear hst
          by_cases hlt : k < h.sn.length
          · obtain ⟨s, hs⟩ : ∃ s, h.sn[k]? = some s := ⟨_, List.getElem?_eq_getElem hlt⟩
            have hR2 := HR1.out.since (show Below w1.heap.size w1 w1 from Below.refl _ _)
            obtain ⟨ad, had, -, hc⟩ := snap_at SA.cells_len (HR1.out.row.below HST.out.bel) hs
            have hsm := List.mem_of_getElem? hs
            have hSG : SnG s.v := HG.out.sn _ (List.mem_map.2 ⟨s, hsm, rfl⟩)
            have HTK := Lib.hid (take_snocI (show (h.sn.map SA.v)[k]? = some s.v by rw [List.getElem?_map, hs]; rfl))
            obtain ⟨wB, hwB⟩ : ∃ wB, wB = wr.alloc (.cells s.cells.toArray 66) := ⟨_, rfl⟩
            have hbB : Below wr.heap.size wr wB := by rw [hwB]; exact below_alloc wr _
            have KB : Blk wB wr.heap.size 66 #[.int .i64 s.num, .int .i64 s.vw.size, .string (strOf s.name), .bool s.vw.on, .bool s.vw.good, .bool s.prot, .slice s.vw.M s.vw.row.length s.vw.cm, .string (strOf s.vw.par), .int .i64 s.vw.ps, .int .i64 s.vw.ov, .slice s.C s.ch.length s.cc] := by rw [hwB]; exact Blk.new wr _ _
            have HSB := Lib.hid (HST.out.next hbB)
            have HPT := Lib.hid (sput_any s (HR1.out.sn s hsm) (HSM.out.sn s hsm) hSG.row (HSM.out.sn s hsm).ch (fun c hc => (named_len (hSG.ch c hc)).2) HSB.out.wrt HSB.out.bel (by have := HLN.out; omega) (named_len hSG.name).2 hSG.par)
            have HWB := Lib.hid hwB
            unfold SA.cells at HPT HWB
            generalize h.S = sS at *
            subst had
            clear hs hsm hSG hwB hbB hR2
            go_upto_region 12 with (have _h := hc; refine wpList_loadp rfl 66 (.tmp 41) rfl _ [.int .i64 s.num, .int .i64 s.vw.size, .string (strOf s.name), .bool s.vw.on, .bool s.vw.good, .bool s.prot, .slice s.vw.M s.vw.row.length s.vw.cm, .string (strOf s.vw.par), .int .i64 s.vw.ps, .int .i64 s.vw.ov, .slice s.C s.ch.length s.cc] _ rfl hc Try.underlying66 rfl (by kernel_rfl) ?_; clear _h hc)
            rw [← HWB.out]
            clear HWB
            go_wp2_with (have _h := KB; refine wpList_loadq rfl 66 (.tmp 8) rfl wr.heap.size [.int .i64 s.num, .int .i64 s.vw.size, .string (strOf s.name), .bool s.vw.on, .bool s.vw.good, .bool s.prot, .slice s.vw.M s.vw.row.length s.vw.cm, .string (strOf s.vw.par), .int .i64 s.vw.ps, .int .i64 s.vw.ov, .slice s.C s.ch.length s.cc] _ rfl KB Try.underlying66 rfl (by kernel_rfl) ?_; clear _h KB)
            refine HPT.out.mono ?_
            rintro e w9 ⟨rfl, ht⟩
            obtain ⟨F9, h9⟩ := HSB.out.then2 ht
            rw [List.append_assoc] at h9
            have H9 := Lib.hid h9
            clear ht h9 HPT
            go_wp2
            go_roundw
            case rel => exact ⟨k + 1, F9, by omega, by go_num, by rw [HTK.out, List.flatMap_append]; simpa using H9.out⟩
            case measure => simp [intOf]; omega
          · obtain rfl : k = h.sn.length := by omega
            have q := HST.out
            obtain ⟨N, hN⟩ : ∃ N, N = M ++ ((h.sn.map SA.v).take h.sn.length).flatMap putSn := ⟨_, rfl⟩
            rw [← hN] at q HLN
            have hnl := HLN.out
            have HNN := Lib.hid hN
            have HQ := Lib.hid q
            have KQ := HX.out q
            have x0 : wr.cell? ⟨w.heap.size, 0, none⟩ = some (.int .i64 h.id) := (KQ).cell 0
            have x1 : wr.cell? ⟨w.heap.size, 1, none⟩ = some (.int .i64 h.vw.size) := (KQ).cell 1
            have x2 : wr.cell? ⟨w.heap.size, 2, none⟩ = some (.int .i64 h.obj) := (KQ).cell 2
            have x3 : wr.cell? ⟨w.heap.size, 3, none⟩ = some (.int .i64 h.seq) := (KQ).cell 3
            have x4 : wr.cell? ⟨w.heap.size, 4, none⟩ = some (.slice h.S h.sn.length h.cs') := (KQ).cell 4
            have x5 : wr.cell? ⟨w.heap.size, 5, none⟩ = some (.bool h.vw.on) := (KQ).cell 5
            have x6 : wr.cell? ⟨w.heap.size, 6, none⟩ = some (.bool h.vw.good) := (KQ).cell 6
            have x7 : wr.cell? ⟨w.heap.size, 7, none⟩ = some (.slice h.vw.M h.vw.row.length h.vw.cm) := (KQ).cell 7
            have x8 : wr.cell? ⟨w.heap.size, 8, none⟩ = some (.string (strOf h.vw.par)) := (KQ).cell 8
            have x9 : wr.cell? ⟨w.heap.size, 9, none⟩ = some (.int .i64 h.vw.ps) := (KQ).cell 9
            have x10 : wr.cell? ⟨w.heap.size, 10, none⟩ = some (.int .i64 h.vw.ov) := (KQ).cell 10
            have x11 : wr.cell? ⟨w.heap.size, 11, none⟩ = some (.int .i64 h.ow) := (KQ).cell 11
            have x12 : wr.cell? ⟨w.heap.size, 12, none⟩ = some (.int .i64 h.it) := (KQ).cell 12
            have x13 : wr.cell? ⟨w.heap.size, 13, none⟩ = some (.int .i64 h.tg) := (KQ).cell 13
            have HVW := Lib.hid (hview_any h wr)
            unfold HA.cs at HVW
            clear q hN HST KQ HLN
            rename World => wq
            go_wp2_with fail
            refine HVW.out.mono ?_
            rintro e w5 ⟨rfl, b5⟩
            have H5 := Lib.hid (HQ.out.next b5)
            clear b5 HVW x0 x1 x2 x3 x4 x5 x6 x7 x8 x9 x10 x11 x12 x13
            go_wp2_with fail
            refine (vput_any h.vw HR1.out.vw HSM.out.vw HG.out.row H5.out.wrt H5.out.bel (by omega)).mono ?_
            rintro e w6 ⟨rfl, ht⟩
            obtain ⟨F6, h6⟩ := H5.out.then2 ht
            have K6 := HX.out h6
            have x11 : w6.cell? ⟨w.heap.size, 11, none⟩ = some (.int .i64 h.ow) := K6.cell 11
            have x12 : w6.cell? ⟨w.heap.size, 12, none⟩ = some (.int .i64 h.it) := K6.cell 12
            have x13 : w6.cell? ⟨w.heap.size, 13, none⟩ = some (.int .i64 h.tg) := K6.cell 13
            obtain ⟨R, hR⟩ : ∃ R, R = N ++ putVw h.vw.mk' h.vw.lk := ⟨_, rfl⟩
            rw [← hR] at h6
            have hrl : R.length ≤ 5000000 := by
              have h1 := putMk_len (m := h.vw.mk') HG.out.row
              have h2 : (putLk h.vw.lk).length = 8 + h.vw.par.length + 16 := by simp only [putLk, txt, List.length_append, numB_len]; rfl
              have h3 : h.vw.par.length ≤ 20 := HG.out.par
              rw [hR, putVw, List.length_append, List.length_append]
              omega
            have HRR := Lib.hid hR
            have H6 := Lib.hid h6
            clear ht h6 K6 hR
            go_wp2
            clear x11 x12 x13
            go_loopw [58] (fun i wr => ∃ (k : Nat) (F' : List Nat), k ≤ 3 ∧ i = .int .i64 k ∧ Wst w1 wA wr [g] F' g (R ++ (([h.ow, h.it, h.tg] : List Int).take k).flatMap numB)) (fun i _ => 3 - (intOf i).toNat)
            case atStart => exact ⟨0, F6, by omega, rfl, by simpa using H6.out⟩
            case round =>
              obtain ⟨k, F', hk, rfl, hst⟩ := hrel
              have HST := Lib.hid hst
              clear hst
              have hwk : IntKind.i64.wrap ((k : Int) + 1) = (k : Int) + 1 := by rw [IntKind.wrap_i64]; omega
              have htl : (([h.ow, h.it, h.tg] : List Int).take k).length ≤ 3 := by rw [List.length_take]; simp; omega
              have hfl := flat_numB_len (([h.ow, h.it, h.tg] : List Int).take k)
              have HFL : Hid ((R ++ (([h.ow, h.it, h.tg] : List Int).take k).flatMap numB).length ≤ 8500000) := Lib.hid (by rw [List.length_append, hfl]; first | omega | (simp only [List.length_nil]; omega))
              clear hfl htl
              by_cases hlt : k < 3
              · obtain ⟨x, hx⟩ : ∃ x, ([h.ow, h.it, h.tg] : List Int)[k]? = some x := ⟨_, List.getElem?_eq_getElem (by simpa using hlt)⟩
                have hix := run_index_n (P := Try.prog) 3 84 3 (([h.ow, h.it, h.tg] : List Int).map (Value.int .i64)) k (.int .i64 x) Try.underlying84 (by kernel_rfl) (fun w => by kernel_rfl) hlt (i64_at hx) wr
                simp only [List.map_cons, List.map_nil] at hix
                have HX2 := Lib.hid (take_snocI hx)
                clear hx
                go_wp2_with fail
                refine (wnum_any wr w1.heap.size _ _ _ x HST.out.wrt (by have := HFL.out; omega) HST.out.bel.size).mono ?_
                rintro e w7 ⟨rfl, ht⟩
                obtain ⟨F7, h7⟩ := HST.out.then_ ht
                rw [plus_some, List.append_assoc] at h7
                have H7 := Lib.hid h7
                clear ht h7
                go_wp2
                go_roundw
                case rel => exact ⟨k + 1, F7, by omega, by go_num, by rw [HX2.out, List.flatMap_append]; simpa using H7.out⟩
                case measure => simp [intOf]; omega
              · have hkn : k = 3 := by omega
                have d9 : decide ((k : Int) < 3) = false := decide_eq_false (by omega)
                have hq0 := HST.out
                have hf0 := HFL.out
                rw [hkn] at hq0 hf0
                have HQ0 := Lib.hid hq0
                have HF0 := Lib.hid hf0
                clear hq0 hf0 hkn HST HFL
                have q := HQ0.out
                have hfin : h.v.put = R ++ (([h.ow, h.it, h.tg] : List Int).take 3).flatMap numB := by
                  have e3 : ([h.ow, h.it, h.tg] : List Int).take 3 = [h.ow, h.it, h.tg] := rfl
                  have e5 : ([h.id, h.vw.size, h.obj, h.seq, (h.sn.length : Int)] : List Int).take 5 = [h.id, h.vw.size, h.obj, h.seq, (h.sn.length : Int)] := rfl
                  rw [HRR.out, HNN.out, HM.out, e3, e5, List.take_of_length_le (by rw [List.length_map]; exact Nat.le_refl _)]
                  simp only [HdV.put, HA.v, List.length_map, List.append_assoc, List.flatMap_cons, List.flatMap_nil, List.append_nil, List.nil_append]
                rw [← hfin] at q
                have hpl : h.v.put.length ≤ 8500000 := by rw [hfin]; exact HF0.out
                have HO := Lib.hid (out_any wr w1.heap.size _ _ _ q.wrt (by omega))
                have HQ2 := Lib.hid q
                clear q hfin hpl HF0 HQ0
                go_wp2_with fail
                refine HO.out.mono ?_
                rintro e w9 ⟨pp, rfl, ho, hb9⟩
                have HO9 := Lib.hid (And.intro ho hb9)
                clear ho hb9 HO
                go_wp2
                go_ret2
                exact ⟨HB1.out.trans ((HQ2.out.bel.trans (HO9.out.2.mono HQ2.out.bel.size)).mono HB1.out.size), .inl ⟨HN.out, _, rfl, HO9.out.1.weaken (Nat.le_trans HB1.out.size HQ2.out.bel.size)⟩⟩
end Go.Proofs.Ytgddenhnpjoabaa

/-
  Memory while heads are read; what is read of marks and links. Conditions: the reader lies where it is said to; its bytes are no more than a million.
-/
namespace Go.Proofs.Ytgddenhnpjoabaa
open Go.RowKit Go.BigFrame
set_option linter.unusedSimpArgs false
set_option linter.unusedVariables false
set_option maxRecDepth 100000
theorem far_of {w w' : World} {F F' : List Nat} {k : Nat} (hk : k < w.heap.size) (hn : k ∉ F) (hf : Fresh w F F') : k ∉ F' := fun hm => by
  rcases hf k hm with h | h
  · exact hn h
  · omega
/-- a view whose marks are the call's own, out of the way of F -/
structure VA.N (v : VA) (w : World) (base : Nat) (F : List Nat) : Prop where
  own : Own w base (.slice v.M v.row.length v.cm) v.row.length v.row
  far : ∀ k ∈ rowOf (.slice v.M 0 0), k ∉ F
  ok : ∀ b ∈ v.row, b < 256
  par : ∀ b ∈ v.par, b < 256
  size : I64 v.size
  ps : I64 v.ps
  ov : I64 v.ov
  pl : v.par.length ≤ 1000000
structure SA.N (s : SA) (w : World) (base : Nat) (F : List Nat) : Prop where
  vw : s.vw.N w base F
  own : w.ownsRow base 9 1 (.slice s.C s.ch.length s.cc) s.ch.length (strs s.ch)
  far : ∀ k ∈ rowOf (.slice s.C 0 0), k ∉ F
  ok : ∀ c ∈ s.ch, ∀ b ∈ c, b < 256
  name : ∀ b ∈ s.name, b < 256
  num : I64 s.num
  nl : s.name.length ≤ 1000000
section
variable {w w' : World} {base base' : Nat} {F F' : List Nat}
theorem VA.N.of {v : VA} (h : v.N w base F) (hk : ∀ k ∈ rowOf (.slice v.M 0 0), w'.heap[k]? = w.heap[k]?) : v.N w' base F :=
  ⟨row_of h.own fun k hm => hk k (by rw [row_slice v.M 0 0 v.row.length v.cm]; exact hm), h.far, h.ok, h.par, h.size, h.ps, h.ov, h.pl⟩
theorem VA.N.under {v : VA} (h : v.N w base F) {k : Nat} (hk : k ∈ rowOf (.slice v.M 0 0)) : k < w.heap.size := row_under h.own k (by rw [row_slice v.M v.row.length v.cm 0 0]; exact hk)
theorem VA.N.read {v : VA} (h : v.N w base F) (o : Only F w w') (f : Fresh w F F') : v.N w' base F' := by
  have h1 := h.of (fun k hk => o.block k (h.under hk) (h.far k hk))
  exact ⟨h1.own, fun k hk => far_of (w' := w') (h.under hk) (h.far k hk) f, h1.ok, h1.par, h1.size, h1.ps, h1.ov, h1.pl⟩
theorem VA.N.below {v : VA} (h : v.N w base F) (hb : Below w.heap.size w w') : v.N w' base F := h.of fun k hk => hb.block k (h.under hk)
theorem VA.N.ty {v : VA} (h : v.N w base F) {k : Nat} (hk : k ∈ rowOf (.slice v.M 0 0)) : ∃ cs, Blk w k 5 cs := own_ty h.own (by rw [row_slice v.M v.row.length v.cm 0 0]; exact hk)
theorem SA.N.under {s : SA} (h : s.N w base F) {k : Nat} (hk : k ∈ rowOf (.slice s.C 0 0)) : k < w.heap.size := row_under h.own k (by rw [row_slice s.C s.ch.length s.cc 0 0]; exact hk)
theorem SA.N.ty {s : SA} (h : s.N w base F) {k : Nat} (hk : k ∈ rowOf (.slice s.C 0 0)) : ∃ cs, Blk w k 9 cs := own_ty h.own (by rw [row_slice s.C s.ch.length s.cc 0 0]; exact hk)
theorem SA.N.of {s : SA} (h : s.N w base F) (hv : ∀ k ∈ rowOf (.slice s.vw.M 0 0), w'.heap[k]? = w.heap[k]?) (hk : ∀ k ∈ rowOf (.slice s.C 0 0), w'.heap[k]? = w.heap[k]?) : s.N w' base F :=
  ⟨h.vw.of hv, row_of h.own fun k hm => hk k (by rw [row_slice s.C 0 0 s.ch.length s.cc]; exact hm), h.far, h.ok, h.name, h.num, h.nl⟩
theorem SA.N.read {s : SA} (h : s.N w base F) (o : Only F w w') (f : Fresh w F F') : s.N w' base F' := by
  have h1 := h.of (w' := w') (fun k hk => o.block k (h.vw.under hk) (h.vw.far k hk)) (fun k hk => o.block k (h.under hk) (h.far k hk))
  exact ⟨h.vw.read o f, h1.own, fun k hk => far_of (w' := w') (h.under hk) (h.far k hk) f, h1.ok, h1.name, h1.num, h1.nl⟩
theorem SA.N.below {s : SA} (h : s.N w base F) (hb : Below w.heap.size w w') : s.N w' base F := h.of (fun k hk => hb.block k (h.vw.under hk)) (fun k hk => hb.block k (h.under hk))
/-- blocks of bytes and of strings stay -/
def Stay (w w' : World) : Prop := ∀ k t cs, Blk w k t cs → t = 5 ∨ t = 9 → w'.heap[k]? = w.heap[k]?
theorem VA.N.stay {v : VA} (h : v.N w base F) (hs : Stay w w') : v.N w' base F := h.of fun k hk => by obtain ⟨cs, hb⟩ := h.ty hk; exact hs k _ cs hb (.inl rfl)
theorem SA.N.stay {s : SA} (h : s.N w base F) (hs : Stay w w') : s.N w' base F := h.of (fun k hk => by obtain ⟨cs, hb⟩ := h.vw.ty hk; exact hs k _ cs hb (.inl rfl)) (fun k hk => by obtain ⟨cs, hb⟩ := h.ty hk; exact hs k _ cs hb (.inr rfl))
theorem VA.N.weaken {v : VA} (h : v.N w base F) (hb : base' ≤ base) : v.N w base' F := ⟨h.own.weaken hb, h.far, h.ok, h.par, h.size, h.ps, h.ov, h.pl⟩
theorem SA.N.weaken {s : SA} (h : s.N w base F) (hb : base' ≤ base) : s.N w base' F := ⟨h.vw.weaken hb, row_weaken h.own hb, h.far, h.ok, h.name, h.num, h.nl⟩
theorem VA.N.R {v : VA} (h : v.N w base F) : v.R w := by
  obtain ⟨-, c1, c2, -⟩ := own_shape h.own
  unfold maxLen at c2
  exact ⟨h.own.bytes h.ok, h.par, h.size, h.ps, h.ov, by omega, by have := h.pl; omega, c1⟩
theorem SA.N.R {s : SA} (h : s.N w base F) : s.R w := by
  obtain ⟨-, c1, c2, -⟩ := own_shape h.own
  unfold maxLen at c2
  exact ⟨h.vw.R, ⟨Reads.of_own h.own, h.ok⟩, h.name, h.num, by omega, by have := h.nl; omega, c1⟩
theorem stay_only {g : Nat} {t : TypeId} {cs : Array Value} (hk : Blk w g t cs) (h1 : t ≠ 5) (h2 : t ≠ 9) (o : Only [g] w w') : Stay w w' := fun k t' cs' hb ht => o.block k hb.lt (fun hm => by
  simp at hm
  subst hm
  rcases ht with rfl | rfl
  · exact hb.ne_ hk (Ne.symm h1) rfl
  · exact hb.ne_ hk (Ne.symm h2) rfl)
theorem stay_below (hb : Below w.heap.size w w') : Stay w w' := fun k t cs h _ => hb.block k h.lt
/-- a reader, and two blocks of the call's own -/
structure Tb (base : Nat) (w wr : World) (F0 F : List Nat) (p : Option Addr) (s : RD) (t : TypeId) (g2 g3 : Nat) (Z2 cs3 : Array Value) : Prop where
  rd : Rd wr base F p s
  only : Only F0 w wr
  fresh : Fresh w F0 F
  k2 : Blk wr g2 t Z2
  n2 : g2 ∉ F
  k3 : Blk wr g3 t cs3
  n3 : g3 ∉ F
  b2 : w.heap.size ≤ g2
  b3 : w.heap.size ≤ g3
variable {wr w2 : World} {F0 : List Nat} {p : Option Addr} {s s' : RD} {t : TypeId} {g2 g3 : Nat} {Z2 cs3 cs4 : Array Value}
theorem Tb.read (h : Tb base w wr F0 F p s t g2 g3 Z2 cs3) (r : Rd w2 base F' p s') (o : Only F wr w2) (f : Fresh wr F F') : Tb base w w2 F0 F' p s' t g2 g3 Z2 cs3 :=
  ⟨r, h.only.trans o h.fresh, h.fresh.trans f h.only.size, h.k2.of (o.block _ h.k2.lt h.n2), far_of (w' := w2) h.k2.lt h.n2 f, h.k3.of (o.block _ h.k3.lt h.n3), far_of (w' := w2) h.k3.lt h.n3 f, h.b2, h.b3⟩
theorem Tb.next (h : Tb base w wr F0 F p s t g2 g3 Z2 cs3) (hb : Below wr.heap.size wr w2) : Tb base w w2 F0 F p s t g2 g3 Z2 cs3 := h.read (h.rd.below hb) (Only.of_below hb F) (Fresh.refl _ _)
theorem Tb.store (h : Tb base w wr F0 F p s t g2 g3 Z2 cs3) (hne : g2 ≠ g3) (k : Blk w2 g3 t cs4) (o : Only [g3] wr w2) (hs : w2.heap.size = wr.heap.size) : Tb base w w2 F0 F p s t g2 g3 Z2 cs4 := by
  refine ⟨h.rd.of (by omega) (fun k hk => o.block k (h.rd.under k hk) (fun hm => by simp at hm; subst hm; exact h.n3 hk)), ?_, h.fresh, h.k2.only o (by simpa using hne), h.n2, k, h.n3, h.b2, h.b3⟩
  have b3 := h.b3
  exact ⟨o.os.trans h.only.os, o.tape.trans h.only.tape, o.output.trans h.only.output, by have := h.only.size; omega, fun i hi hn => (o.block i (by have := h.only.size; omega) (by simp; omega)).trans (h.only.block i hi hn)⟩
end
end Go.Proofs.Ytgddenhnpjoabaa

/-
  What is read of marks, links, children. Conditions: the reader lies where it is said to; its bytes are no more than a million.
-/
namespace Go.Proofs.Ytgddenhnpjoabaa
open Go.RowKit Go.BigFrame
set_option linter.unusedSimpArgs false
set_option linter.unusedVariables false
set_option maxRecDepth 100000
theorem take_len (s : RD) (n : Int) : (s.got n).length + (s.take n).bs.length ≤ s.bs.length := by
  unfold RD.got RD.take
  split
  · simp only [List.length_take, List.length_drop]; omega
  · simp [RD.spoilt]
theorem got_bad {s : RD} {n : Int} (h : s.bad = true) : s.got n = [] := by simp [RD.got, RD.fits, h]
theorem bytes_cost (s : RD) (h : s.bytes ≠ []) : s.bytes.length + 8 + s.bytesTo.bs.length ≤ s.bs.length := by
  have h1 := take_len (s.take 8) s.num
  have h2 := take_len s 8
  have h3 : (s.got 8).length = 8 := by
    have hb : (s.take 8).bad = false := by
      cases hb : (s.take 8).bad with
      | false => rfl
      | true => exact absurd (got_bad hb) h
    rcases got_len s 8 with h' | h'
    · exact_mod_cast h'
    · unfold RD.take at hb
      split at hb
      · rename_i hf
        unfold RD.got at h'
        rw [if_pos (show s.fits ((8 : Nat) : Int) = true from hf)] at h'
        simp [RD.fits] at hf
        rw [List.length_take, show ((8 : Nat) : Int).toNat = 8 from rfl] at h'
        omega
      · cases hb
  show (s.take 8 |>.got s.num).length + 8 + ((s.take 8).take s.num).bs.length ≤ _
  omega
theorem bytesTo_le (s : RD) : s.bytesTo.bs.length ≤ s.bs.length := Nat.le_trans (RD.take_le _ _) (RD.take_le _ _)
theorem bytes_le (s : RD) : s.bytes.length ≤ s.bs.length := Nat.le_trans (RD.got_le _ _) (RD.take_le _ _)
theorem flagTo_le (s : RD) : s.flagTo.bs.length ≤ s.bs.length := by
  unfold RD.flagTo
  split
  · simp [RD.spoilt]
  · exact RD.take_le _ _
theorem mkTo_le (s : RD) : s.mkTo.bs.length ≤ s.bs.length := Nat.le_trans (bytesTo_le _) (Nat.le_trans (flagTo_le _) (flagTo_le _))
theorem lkTo_le (s : RD) : s.lkTo.bs.length ≤ s.bs.length := Nat.le_trans (RD.take_le _ _) (Nat.le_trans (RD.take_le _ _) (bytesTo_le _))
theorem chT_le : ∀ (n : Nat) (s : RD), 9 * (RD.chL n s).length + (RD.chT n s).bs.length ≤ s.bs.length
  | 0, s => by simp [RD.chL, RD.chT]
  | n + 1, s => by
    rw [RD.chL, RD.chT]
    split
    · rename_i h
      have h1 := named_len h
      have h2 := bytes_cost s (fun e => by rw [e] at h1; simp at h1)
      have h3 := chT_le n s.bytesTo
      rw [List.length_cons]
      omega
    · simpa using bytesTo_le s
theorem snTo_le (s : RD) : s.snTo.bs.length ≤ s.bs.length := by
  have h := chT_le s.sn2.num.toNat (s.sn2.take 8)
  have h1 : s.sn1.bs.length ≤ s.bs.length := Nat.le_trans (RD.take_le _ _) (Nat.le_trans (bytesTo_le _) (RD.take_le _ _))
  have h2 : s.sn2.bs.length ≤ s.sn1.bs.length := Nat.le_trans (flagTo_le _) (Nat.le_trans (lkTo_le _) (mkTo_le _))
  have h3 := RD.take_le s.sn2 8
  have h4 : s.snTo.bs.length = (RD.chT s.sn2.num.toNat (s.sn2.take 8)).bs.length := rfl
  omega
theorem marksOf_len (b : List Nat) : (marksOf b).length ≤ 256 := by
  unfold marksOf
  split
  · rename_i h; rw [takeM_len]; exact h.2.1
  · simp
theorem marksOf_good (b : List Nat) : Good (marksOf b) := by
  unfold marksOf
  split
  · rename_i h; exact ⟨by rw [takeM_len]; exact h.2.1, takeM_le _ _⟩
  · exact ⟨by simp, by simp⟩
set_option maxHeartbeats 2000000 in
theorem tmarks_any (w : World) (base : Nat) (F : List Nat) (p : Option Addr) (s : RD) (h : Rd w base F p s) (hB : base ≤ w.heap.size) (hs : s.bs.length ≤ 1000000) :
    Calls Try.prog 100 #[.pointer p] w fun e w' => ∃ A c F', e = .returned (.slice A (marksOf s.bytes).length c) ∧ Own w' w.heap.size (.slice A (marksOf s.bytes).length c) (marksOf s.bytes).length (marksOf s.bytes) ∧ Rd w' base F' p s.bytesTo ∧ Only F w w' ∧ Fresh w F F' ∧ (∀ k ∈ rowOf (.slice A 0 0), k ∉ F') := by
  have hbl := bytes_le s
  have HR := Lib.hid (rbytes_any w base F p s h hB (by omega))
  clear h
  go_enter Try.func100, Try.ntmps100
  go_wp2_with fail
  refine HR.out.mono ?_
  rintro e w1 ⟨v1, F1, rfl, ho, hr, o, f, hlt, hn⟩
  obtain ⟨A1, c1, rfl⟩ := own_form ho
  have HT := Lib.hid (ktake_any A1 s.bytes.length c1 s.bytes w1 (by omega) (ho.bytes hlt))
  have HS := Lib.hid (And.intro hr (And.intro o f))
  clear ho hr o f hn
  go_wp2_with fail
  refine HT.out.mono ?_
  rintro e w2 ⟨b2, ⟨hok, v, rfl, hv⟩ | ⟨hno, rfl⟩⟩
  · have hm : marksOf s.bytes = takeM s.bytes (countOf s.bytes) := by rw [marksOf, if_pos hok]
    have hl : (marksOf s.bytes).length = countOf s.bytes := by rw [hm, takeM_len]
    obtain ⟨A2, c2, rfl⟩ := own_form hv
    have HF : Hid (∃ A c F', Value.slice A2 (countOf s.bytes) c2 = .slice A (marksOf s.bytes).length c ∧ Own w2 w.heap.size (.slice A (marksOf s.bytes).length c) (marksOf s.bytes).length (marksOf s.bytes) ∧ Rd w2 base F' p s.bytesTo ∧ Only F w w2 ∧ Fresh w F F' ∧ (∀ k ∈ rowOf (.slice A 0 0), k ∉ F')) := Lib.hid (by
      refine ⟨A2, c2, F1, by rw [hl], by rw [hl, hm]; exact hv.weaken HS.out.2.1.size, HS.out.1.below b2, HS.out.2.1.trans (Only.of_below b2 F1) HS.out.2.2, HS.out.2.2, fun k hk hf => ?_⟩
      have h1 := HS.out.1.under k hf
      have h2 := (World.ownsRow.lt hv k (mem_rowOf.1 (by rw [row_slice A2 _ _ 0 0]; exact hk))).1
      omega)
    clear hv b2 hok hm hl
    go_wp2
    go_ret
    obtain ⟨A, c, F', e, r⟩ := HF.out
    exact ⟨A, c, F', congrArg Ending.returned e, r⟩
  · have hm : marksOf s.bytes = [] := by rw [marksOf, if_neg hno]
    have HF : Hid (∃ A c F', Value.slice none 0 0 = .slice A (marksOf s.bytes).length c ∧ Own w2 w.heap.size (.slice A (marksOf s.bytes).length c) (marksOf s.bytes).length (marksOf s.bytes) ∧ Rd w2 base F' p s.bytesTo ∧ Only F w w2 ∧ Fresh w F F' ∧ (∀ k ∈ rowOf (.slice A 0 0), k ∉ F')) := Lib.hid (by
      rw [hm]
      exact ⟨none, 0, F1, rfl, Own.nil _ _, HS.out.1.below b2, HS.out.2.1.trans (Only.of_below b2 F1) HS.out.2.2, HS.out.2.2, fun k hk => (by cases hk)⟩)
    clear b2 hno hm
    go_wp2
    go_ret
    obtain ⟨A, c, F', e, r⟩ := HF.out
    exact ⟨A, c, F', congrArg Ending.returned e, r⟩
theorem link_zero (w : World) : (zeroValue 34).run Try.prog w = .ok (.agg #[.string ⟨#[]⟩, .int .i64 0, .int .i64 0]) w := by kernel_rfl
set_option maxHeartbeats 2000000 in
theorem tlink_any (w : World) (base : Nat) (F : List Nat) (p : Option Addr) (s : RD) (h : Rd w base F p s) (hB : base ≤ w.heap.size) :
    Calls Try.prog 101 #[.pointer p] w fun e w' => e = .returned (.agg #[.string (strOf s.lkv.par), .int .i64 s.lkv.ps, .int .i64 s.lkv.ov]) ∧ RTo w base F p s.lkTo w' := by
  obtain ⟨w0, hw0⟩ : ∃ w0, w0 = w.alloc (.cells #[.string ⟨#[]⟩, .int .i64 0, .int .i64 0] 34) := ⟨_, rfl⟩
  have hb0 : Below w.heap.size w w0 := by rw [hw0]; exact below_alloc w _
  have k0 : Blk w0 w.heap.size 34 #[.string ⟨#[]⟩, .int .i64 0, .int .i64 0] := by rw [hw0]; exact Blk.new w _ _
  have hn : w.heap.size ∉ F := fun hm => by have := h.under _ hm; omega
  have hr0 := h.below hb0
  have HR0 := Lib.hid hr0
  have HW := Lib.hid hw0
  have HK := Lib.hid (And.intro k0 hn)
  have HB0 := Lib.hid hb0
  have hz := link_zero
  clear h hw0 k0 hn hr0 hb0
  go_enter Try.func101, Try.ntmps101
  go_upto_region 1 with (fail)
  rw [← HW.out]
  clear HW hz
  go_wp2_with fail
  refine (rtext_any w0 base F p s HR0.out (Nat.le_trans hB HB0.out.size)).mono ?_
  rintro e w1 ⟨rfl, F1, r1, o1, f1⟩
  have H1 := Lib.hid (And.intro r1 (And.intro o1 f1))
  clear r1 o1 f1
  go_wp2_with fail
  refine (rnum_any w1 base F1 p _ H1.out.1 (Nat.le_trans hB (Nat.le_trans HB0.out.size H1.out.2.1.size))).mono ?_
  rintro e w2 ⟨rfl, F2, r2, o2, f2⟩
  have H2 := Lib.hid (And.intro r2 (And.intro (H1.out.2.1.trans o2 H1.out.2.2) (H1.out.2.2.trans f2 H1.out.2.1.size)))
  clear r2 o2 f2
  go_wp2_with fail
  refine (rnum_any w2 base F2 p _ H2.out.1 (Nat.le_trans hB (Nat.le_trans HB0.out.size H2.out.2.1.size))).mono ?_
  rintro e w3 ⟨rfl, F3, r3, o3, f3⟩
  have H3 := Lib.hid (And.intro r3 (And.intro (H2.out.2.1.trans o3 H2.out.2.2) (H2.out.2.2.trans f3 H2.out.2.1.size)))
  have K3 : Blk w3 w.heap.size 34 #[.string ⟨#[]⟩, .int .i64 0, .int .i64 0] := HK.out.1.of (H3.out.2.1.block _ HK.out.1.lt HK.out.2)
  have N3 : w.heap.size ∉ F3 := far_of (w' := w3) HK.out.1.lt HK.out.2 H3.out.2.2
  have HN3 := Lib.hid N3
  clear r3 o3 f3 N3
  go_wp2_with (have _h := K3; refine wpList_storeq rfl 34 (.tmp 2) (.tmp 9) rfl w.heap.size _ [.string (strOf s.bytes), .int .i64 s.bytesTo.num, .int .i64 (s.bytesTo.take 8).num] rfl rfl K3 rfl (by kernel_rfl) (by intro v hv; simp at hv; rcases hv with rfl | rfl | rfl <;> rfl) ?_; clear _h K3; intro w9 K9 ho9 hs9)
  refine bodyPost_ret (results_cell_row rfl _ _ w.heap.size 34 _ (0, 0) _ rfl K9 Try.underlying34 rfl (by kernel_rfl)) rfl ?_
  refine ⟨rfl, F3, H3.out.1.of (by omega) (fun k hk => ho9.block k (H3.out.1.under k hk) (fun hm => by simp at hm; subst hm; exact HN3.out hk)), ?_, fun x hx => (H3.out.2.2 x hx).imp id (Nat.le_trans HB0.out.size)⟩
  have o := H3.out.2.1
  have s1 := HB0.out.size
  have s2 := o.size
  exact ⟨ho9.os.trans (o.os.trans HB0.out.os), ho9.tape.trans (o.tape.trans HB0.out.tape), ho9.output.trans (o.output.trans HB0.out.output), by omega, fun i hi hn => (ho9.block i (by omega) (by simp; omega)).trans ((o.block i (by omega) hn).trans (HB0.out.block i hi))⟩
theorem str_info : (Try.prog.info? 9).map (fun i => (i.zero, i.size, i.bytes)) = some (some (.string ⟨#[]⟩), 1, 16) := by kernel_rfl
/-- names of the call's own -/
def OwnS (w : World) (base : Nat) (v : Value) (l : List (List Nat)) : Prop := w.ownsRow base 9 1 v l.length (strs l)
theorem OwnS.nil (w : World) (base : Nat) : OwnS w base (.slice none 0 0) [] := World.ownsRow_nil w base _ 1
/-- append of names onto names of the call's own -/
theorem app_strs {w : World} {ops : Array Oper} {rest : List Oper} {o : Oper} {a : Act} {Q : Exit → Act → World → Prop} (s x : Operand)
    (hgd : o.guard = none) (ho : o.op = .call { callee := .builtin .append, args := #[s, x], argTypes := #[64, 64] })
    (base : Nat) (v : Value) (l : List (List Nat)) (hs : a.eval s = v) (hown : OwnS w base v l)
    (B : Nat) (A : Option Addr) (m c : Nat) (news : List (List Nat)) (hx : a.eval x = .slice A m c) (hm : m = news.length) (hr : Reads w B 1 A news.length (strs news))
    (hsz : l.length + m ≤ 10000000) (hbase : base ≤ w.heap.size)
    (h : ∀ v' w', OwnS w' base v' (l ++ news) → w.grownBy w' v.ownBlock → (v'.ownBlock = v.ownBlock ∨ v'.ownBlock = some w.heap.size) → wpList Try.prog ops Q rest (a.put o.dst v') w') :
    wpList Try.prog ops Q (o :: rest) a w := by
  subst hm
  obtain ⟨i0, hi0, hz0, hz1, hz2⟩ := info_parts str_info
  refine wpList_append_any w hgd s x _ ho base 9 i0 _ 1 16 Try.underlying64 hi0 hz0 hz1 hz2 rfl (by omega) v l.length (strs l) hs hown B A news.length c (strs news) hx hr (strs_one _) (by simp only [maxLen]; omega) (by omega) hbase ?_
  intro v' w' h1 h2 h3
  exact h v' w' (by unfold OwnS; rw [strs, List.map_append, List.length_append]; exact h1) h2 h3
section
variable {P : Program} {ops : Array Oper} {rest : List Oper} {o : Oper} {a : Act} {w : World} {Q : Exit → Act → World → Prop}
/-- three cells of a block known whole are stored -/
theorem wpList_set3 (hgd : o.guard = none) (ty : TypeId) (x y : Operand) (ho : o.op = .store ty x y)
    (g i : Nat) (t : TypeId) (cs : Array Value) (u v z : Value) (hx : a.eval x = .pointer (some ⟨g, i, none⟩)) (hy : a.eval y = .agg #[u, v, z]) (hB : Blk w g t cs) (hs : i + 2 < cs.size) (hi : (P.info? ty).map (·.size) = some 3) (h1 : u.oneCell' = true) (h2 : v.oneCell' = true) (h3 : z.oneCell' = true)
    (h : ∀ w', Blk w' g t (((cs.setIfInBounds i u).setIfInBounds (i + 1) v).setIfInBounds (i + 2) z) → Only [g] w w' → w'.heap.size = w.heap.size → wpList P ops Q rest (a.put o.dst undef) w') : wpList P ops Q (o :: rest) a w := by
  refine wpList_store_mid hgd ty x y ho g i #[u, v, z] hx hy (hB.there (by simp; omega)) (by simpa using hi) (all_oneCell_toArray (cs := [u, v, z]) (by intro q hq; simp at hq; rcases hq with rfl | rfl | rfl <;> assumption)) (h _ ?_ ((Only.refl _ _).grown (by simpa using (setCells_grown g [u, v, z] i w).1) (fun k e => .inl (by injection e with e; simp [e]))) (by simpa using (setCells_grown g [u, v, z] i w).2))
  have := ((hB.set_ i u).set_ (i + 1) v).set_ (i + 2) z
  simpa [World.setCells] using this
end
end Go.Proofs.Ytgddenhnpjoabaa

/-
  What is read of a snapshot. Conditions: the reader lies where it is said to; its bytes are no more than a million.
-/
namespace Go.Proofs.Ytgddenhnpjoabaa
open Go.RowKit Go.BigFrame
set_option linter.unusedSimpArgs false
set_option linter.unusedVariables false
set_option maxRecDepth 100000
theorem snap_zero (w : World) : (zeroValue 66).run Try.prog w = .ok (.agg #[.int .i64 0, .int .i64 0, .string ⟨#[]⟩, .bool false, .bool false, .bool false, .slice none 0 0, .string ⟨#[]⟩, .int .i64 0, .int .i64 0, .slice none 0 0]) w := by kernel_rfl
def TakeSnTo (w : World) (base : Nat) (F : List Nat) (p : Option Addr) (s : RD) (e : Ending) (w' : World) : Prop :=
  ∃ (a : SA) (F' : List Nat), e = .returned (.agg a.cells.toArray) ∧ a.v = s.snv ∧ a.N w' w.heap.size F' ∧ Rd w' base F' p s.snTo ∧ Only F w w' ∧ Fresh w F F'
theorem snv_of (s : RD) (va : VA) (M : Option Addr) (cm : Nat) (l : List (List Nat)) (h : va = ⟨(s.take 8).bytesTo.num, s.sn1.flag, s.sn1.flagTo.flag, marksOf s.sn1.flagTo.flagTo.bytes, M, cm, s.sn1.mkTo.lkv.par, s.sn1.mkTo.lkv.ps, s.sn1.mkTo.lkv.ov⟩) (hc : s.snv.ch = l) (C : Option Addr) (cc : Nat) : SA.v ⟨s.num, (s.take 8).bytes, s.sn1.mkTo.lkTo.flag, va, l, C, cc⟩ = s.snv := by
  subst h
  subst hc
  rfl
theorem one11 (a b : Int) (nm : ByteArray) (p q r : Bool) (M C : Option Addr) (n cm m cc : Nat) (par : ByteArray) (c d : Int) : ∀ u ∈ [Value.int .i64 a, .int .i64 b, .string nm, .bool p, .bool q, .bool r, .slice M n cm, .string par, .int .i64 c, .int .i64 d, .slice C m cc], u.oneCell' = true := by
  intro u hu
  simp at hu
  rcases hu with rfl | rfl | rfl | rfl | rfl | rfl | rfl | rfl | rfl | rfl | rfl <;> rfl
theorem strs_app (a b : List (List Nat)) : strs (a ++ b) = strs a ++ strs b := by simp [strs]
theorem Tb.grow {base : Nat} {w wr w2 : World} {F0 F : List Nat} {p : Option Addr} {s : RD} {t : TypeId} {g2 g3 : Nat} {Z2 cs3 : Array Value} {row : Option Nat} (h : Tb base w wr F0 F p s t g2 g3 Z2 cs3) (g : wr.grownBy w2 row) (hr : ∀ j, row = some j → j ∉ F ∧ j ≠ g2 ∧ j ≠ g3 ∧ w.heap.size ≤ j) : Tb base w w2 F0 F p s t g2 g3 Z2 cs3 :=
  ⟨h.rd.of g.size (fun k hk => g.block k (h.rd.under k hk) (fun e => (hr k e.symm).1 hk)), h.only.grown g (fun j hj => .inr (hr j hj).2.2.2), h.fresh, h.k2.grown g (fun e => (hr _ e.symm).2.1 rfl), h.n2, h.k3.grown g (fun e => (hr _ e.symm).2.2.1 rfl), h.n3, h.b2, h.b3⟩
set_option maxHeartbeats 16000000 in
theorem tsnap_any (w : World) (base : Nat) (F : List Nat) (p : Option Addr) (s : RD) (h : Rd w base F p s) (hB : base ≤ w.heap.size) (hs : s.bs.length ≤ 1000000) :
    Calls Try.prog 98 #[.pointer p] w (TakeSnTo w base F p s) := by
  obtain ⟨w0, hw0⟩ : ∃ w0, w0 = w.alloc (.cells #[.int .i64 0, .int .i64 0, .string ⟨#[]⟩, .bool false, .bool false, .bool false, .slice none 0 0, .string ⟨#[]⟩, .int .i64 0, .int .i64 0, .slice none 0 0] 66) := ⟨_, rfl⟩
  have hb0 : Below w.heap.size w w0 := by rw [hw0]; exact below_alloc w _
  have k0 : Blk w0 w.heap.size 66 #[.int .i64 0, .int .i64 0, .string ⟨#[]⟩, .bool false, .bool false, .bool false, .slice none 0 0, .string ⟨#[]⟩, .int .i64 0, .int .i64 0, .slice none 0 0] := by rw [hw0]; exact Blk.new w _ _
  have hn : w.heap.size ∉ F := fun hm => by have := h.under _ hm; omega
  have HR0 := Lib.hid (h.below hb0)
  have HW := Lib.hid hw0
  have HK := Lib.hid (And.intro k0 hn)
  have HB0 := Lib.hid hb0
  have HGD := Lib.hid h.good
  have hz := snap_zero
  have l1 := RD.take_le s 8
  have l2 := bytesTo_le (s.take 8)
  have l3 := RD.take_le (s.take 8).bytesTo 8
  have l4 : s.sn1.bs.length ≤ 1000000 := by have : s.sn1 = (s.take 8).bytesTo.take 8 := rfl; rw [this]; omega
  have HL := Lib.hid l4
  clear h hw0 k0 hn hb0
  go_enter Try.func98, Try.ntmps98
  go_upto_region 1 with (fail)
  rw [← HW.out]
  clear HW hz
  go_wp2_with fail
  refine (rnum_any w0 base F p s HR0.out (Nat.le_trans hB HB0.out.size)).mono ?_
  rintro e w1 ⟨rfl, F1, r1, o1, f1⟩
  have H1 := Lib.hid (And.intro r1 (And.intro o1 f1))
  clear r1 o1 f1
  go_wp2_with fail
  refine (rtext_any w1 base F1 p _ H1.out.1 (Nat.le_trans hB (Nat.le_trans HB0.out.size H1.out.2.1.size))).mono ?_
  rintro e w2 ⟨rfl, F2, r2, o2, f2⟩
  have H2 := Lib.hid (And.intro r2 (And.intro (H1.out.2.1.trans o2 H1.out.2.2) (H1.out.2.2.trans f2 H1.out.2.1.size)))
  clear r2 o2 f2
  go_wp2_with fail
  refine (rnum_any w2 base F2 p _ H2.out.1 (Nat.le_trans hB (Nat.le_trans HB0.out.size H2.out.2.1.size))).mono ?_
  rintro e w3 ⟨rfl, F3, r3, o3, f3⟩
  have H3 := Lib.hid (And.intro r3 (And.intro (H2.out.2.1.trans o3 H2.out.2.2) (H2.out.2.2.trans f3 H2.out.2.1.size)))
  clear r3 o3 f3
  obtain ⟨w4, hw4⟩ : ∃ w4, w4 = w3.alloc (.cells #[.int .i64 s.num, .int .i64 (s.take 8).bytesTo.num, .string (strOf (s.take 8).bytes), .bool false, .bool false, .bool false, .slice none 0 0, .string ⟨#[]⟩, .int .i64 0, .int .i64 0, .slice none 0 0] 66) := ⟨_, rfl⟩
  obtain ⟨g3, hg3⟩ : ∃ g3, g3 = w3.heap.size := ⟨_, rfl⟩
  have hlt03 : w.heap.size < w3.heap.size := Nat.lt_of_lt_of_le HK.out.1.lt H3.out.2.1.size
  have HT4 : Hid (Tb base w w4 F F3 p s.sn1 66 w.heap.size g3 #[.int .i64 0, .int .i64 0, .string ⟨#[]⟩, .bool false, .bool false, .bool false, .slice none 0 0, .string ⟨#[]⟩, .int .i64 0, .int .i64 0, .slice none 0 0] #[.int .i64 s.num, .int .i64 (s.take 8).bytesTo.num, .string (strOf (s.take 8).bytes), .bool false, .bool false, .bool false, .slice none 0 0, .string ⟨#[]⟩, .int .i64 0, .int .i64 0, .slice none 0 0]) := Lib.hid (by
    have hb4 : Below w3.heap.size w3 w4 := by rw [hw4]; exact below_alloc w3 _
    refine ⟨H3.out.1.below hb4, (Only.of_below HB0.out F).trans (H3.out.2.1.trans (Only.of_below hb4 F3) H3.out.2.2) (Fresh.refl _ _), fun x hx => (H3.out.2.2 x hx).imp id (Nat.le_trans HB0.out.size), (HK.out.1.of (H3.out.2.1.block _ HK.out.1.lt HK.out.2)).of (hb4.block _ hlt03), far_of (w' := w3) HK.out.1.lt HK.out.2 H3.out.2.2, ?_, ?_, ?_, ?_⟩
    · rw [hw4, hg3]; exact Blk.new w3 _ _
    · rw [hg3]; exact fun hm => by have := H3.out.1.under _ hm; omega
    · exact Nat.le_refl _
    · omega)
  have HNE : Hid (w.heap.size ≠ g3) := Lib.hid (by rw [hg3]; omega)
  have HW4 := Lib.hid (And.intro hw4 hg3)
  clear hw4 hg3
  go_upto_region 2 with (fail)
  rw [← HW4.out.1, ← HW4.out.2]
  clear HW4
  have hb4 := Nat.le_trans hB HT4.out.only.size
  go_wp2_with fail
  refine (rflag_any w4 base F3 p _ HT4.out.rd hb4).mono ?_
  rintro e w5 ⟨rfl, F5, r, o, f⟩
  have HT5 := Lib.hid (HT4.out.read r o f)
  clear r o f hb4
  have hb5 := Nat.le_trans hB HT5.out.only.size
  go_wp2_with fail
  refine (rflag_any w5 base F5 p _ HT5.out.rd hb5).mono ?_
  rintro e w6 ⟨rfl, F6, r, o, f⟩
  have HT6 := Lib.hid (HT5.out.read r o f)
  clear r o f hb5
  have hb6 := Nat.le_trans hB HT6.out.only.size
  have hl6 : s.sn1.flagTo.flagTo.bs.length ≤ 1000000 := Nat.le_trans (flagTo_le _) (Nat.le_trans (flagTo_le _) HL.out)
  go_wp2_with fail
  refine (tmarks_any w6 base F6 p _ HT6.out.rd hb6 hl6).mono ?_
  rintro e w7 ⟨M, cm, F7, rfl, hm, r, o, f, far⟩
  have HT7 := Lib.hid (HT6.out.read r o f)
  have HM7 := Lib.hid (And.intro (Own.weaken (base' := w.heap.size) hm HT6.out.only.size) far)
  clear r o f hb6 hl6 hm far
  have hb7 := Nat.le_trans hB HT7.out.only.size
  go_wp2_with fail
  refine (tlink_any w7 base F7 p _ HT7.out.rd hb7).mono ?_
  rintro e w8 ⟨rfl, F8, r, o, f⟩
  have HT8 : Hid (Tb base w w8 F F8 p s.sn1.mkTo.lkTo 66 w.heap.size g3 #[.int .i64 0, .int .i64 0, .string ⟨#[]⟩, .bool false, .bool false, .bool false, .slice none 0 0, .string ⟨#[]⟩, .int .i64 0, .int .i64 0, .slice none 0 0] #[.int .i64 s.num, .int .i64 (s.take 8).bytesTo.num, .string (strOf (s.take 8).bytes), .bool false, .bool false, .bool false, .slice none 0 0, .string ⟨#[]⟩, .int .i64 0, .int .i64 0, .slice none 0 0]) := Lib.hid (HT7.out.read r o f)
  obtain ⟨va, hva⟩ : ∃ va : VA, va = ⟨(s.take 8).bytesTo.num, s.sn1.flag, s.sn1.flagTo.flag, marksOf s.sn1.flagTo.flagTo.bytes, M, cm, s.sn1.mkTo.lkv.par, s.sn1.mkTo.lkv.ps, s.sn1.mkTo.lkv.ov⟩ := ⟨_, rfl⟩
  have HVA8 : Hid (va.N w8 w.heap.size F8) := Lib.hid (by
    have hk : ∀ k ∈ rowOf (.slice M 0 0), k < w7.heap.size := fun k hk => row_under HM7.out.1 k (by rw [row_slice M _ _ 0 0]; exact hk)
    have hg := HT7.out.rd.good
    have hle : s.sn1.mkTo.lkv.par.length ≤ 1000000 := Nat.le_trans (bytes_le _) (Nat.le_trans (mkTo_le _) HL.out)
    subst hva
    exact ⟨row_of HM7.out.1 (fun k h9 => o.block k (row_under HM7.out.1 k h9) (HM7.out.2 k (by rw [row_slice M 0 0 (marksOf s.sn1.flagTo.flagTo.bytes).length cm]; exact h9))), fun k h9 => far_of (w' := w8) (hk k h9) (HM7.out.2 k h9) f, fun b hb => by have := (marksOf_good s.sn1.flagTo.flagTo.bytes).2 b hb; omega, RD.got_lt (RD.take_good hg 8) _, num_range _, num_range _, num_range _, hle⟩)
  have HVE := Lib.hid hva
  have K8 := HT8.out.k3
  clear r o f hb7 hva
  go_wp2_with (first
    | (have _h := K8; refine wpList_setq rfl 4 (.tmp 20) (.tmp 13) rfl g3 3 66 _ (.bool s.sn1.flag) rfl rfl K8 (by simp) (by kernel_rfl) rfl ?_; clear _h K8; intro wA KA oA sA)
    | (have _h := KA; refine wpList_setq rfl 4 (.tmp 21) (.tmp 15) rfl g3 4 66 _ (.bool s.sn1.flagTo.flag) rfl rfl KA (by simp) (by kernel_rfl) rfl ?_; have KA' := KA; clear _h KA; intro wB KB oB sB)
    | (have _h := KB; refine wpList_setq rfl 33 (.tmp 22) (.tmp 17) rfl g3 6 66 _ (.slice M (marksOf s.sn1.flagTo.flagTo.bytes).length cm) rfl rfl KB (by simp) (by kernel_rfl) rfl ?_; have KB' := KB; clear _h KB; intro wC KC oC sC)
    | (have _h := KC; refine wpList_set3 rfl 34 (.tmp 23) (.tmp 19) rfl g3 7 66 _ (.string (strOf s.sn1.mkTo.lkv.par)) (.int .i64 s.sn1.mkTo.lkv.ps) (.int .i64 s.sn1.mkTo.lkv.ov) rfl rfl KC (by simp) (by kernel_rfl) rfl rfl rfl ?_; have KC' := KC; clear _h KC; intro wD KD oD sD; have KD' := KD; clear KD))
  have HTD : Hid (Tb base w wD F F8 p s.sn1.mkTo.lkTo 66 w.heap.size g3 #[.int .i64 0, .int .i64 0, .string ⟨#[]⟩, .bool false, .bool false, .bool false, .slice none 0 0, .string ⟨#[]⟩, .int .i64 0, .int .i64 0, .slice none 0 0] #[.int .i64 s.num, .int .i64 va.size, .string (strOf (s.take 8).bytes), .bool va.on, .bool va.good, .bool false, .slice va.M va.row.length va.cm, .string (strOf va.par), .int .i64 va.ps, .int .i64 va.ov, .slice none 0 0]) := Lib.hid (by
    have := (((HT8.out.store HNE.out KA' oA sA).store HNE.out KB' oB sB).store HNE.out KC' oC sC).store HNE.out KD' oD sD
    rw [HVE.out]
    simpa using this)
  have HVD : Hid (va.N wD w.heap.size F8) := Lib.hid ((((HVA8.out.stay (stay_only HT8.out.k3 (by decide) (by decide) oA)).stay (stay_only KA' (by decide) (by decide) oB)).stay (stay_only KB' (by decide) (by decide) oC)).stay (stay_only KC' (by decide) (by decide) oD))
  clear KA' KB' KC' KD' oA oB oC oD sA sB sC sD
  have hbD := Nat.le_trans hB HTD.out.only.size
  go_wp2_with fail
  refine (rflag_any wD base F8 p _ HTD.out.rd hbD).mono ?_
  rintro e wE ⟨rfl, FE, r, o, f⟩
  have HTE := Lib.hid (HTD.out.read r o f)
  have HVE2 := Lib.hid (HVD.out.read o f)
  have KE := HTE.out.k3
  clear r o f hbD
  go_upto_region 4 with (have _h := KE; refine wpList_setq rfl 4 (.tmp 26) (.tmp 25) rfl g3 5 66 _ (.bool s.sn1.mkTo.lkTo.flag) rfl rfl KE (by simp) (by kernel_rfl) rfl ?_; clear _h KE; intro wG KG oG sG)
  have HTG : Hid (Tb base w wG F FE p s.sn2 66 w.heap.size g3 #[.int .i64 0, .int .i64 0, .string ⟨#[]⟩, .bool false, .bool false, .bool false, .slice none 0 0, .string ⟨#[]⟩, .int .i64 0, .int .i64 0, .slice none 0 0] #[.int .i64 s.num, .int .i64 va.size, .string (strOf (s.take 8).bytes), .bool va.on, .bool va.good, .bool s.sn1.mkTo.lkTo.flag, .slice va.M va.row.length va.cm, .string (strOf va.par), .int .i64 va.ps, .int .i64 va.ov, .slice none 0 0]) := Lib.hid (by
    have := HTE.out.store HNE.out KG oG sG
    have e2 : s.sn2 = s.sn1.mkTo.lkTo.flagTo := rfl
    rw [e2]
    simpa using this)
  have HVG := Lib.hid (HVE2.out.stay (stay_only HTE.out.k3 (by decide) (by decide) oG))
  clear KG oG sG
  have hbG := Nat.le_trans hB HTG.out.only.size
  go_wp2_with fail
  refine (rnum_any wG base FE p _ HTG.out.rd hbG).mono ?_
  rintro e wH ⟨rfl, FH, r, o, f⟩
  obtain ⟨s7, hs7⟩ : ∃ s7, s7 = s.sn2.take 8 := ⟨_, rfl⟩
  rw [← hs7] at r
  have HTH := Lib.hid (HTG.out.read r o f)
  have HVH := Lib.hid (HVG.out.read o f)
  obtain ⟨n, hn⟩ : ∃ n, n = s.sn2.num := ⟨_, rfl⟩
  have hnr := num_range s.sn2
  rw [← hn] at hnr ⊢
  obtain ⟨N, hN⟩ : ∃ N, N = n.toNat := ⟨_, rfl⟩
  have HE7 : Hid (s.snv.ch = RD.chL N s7 ∧ s.snTo = RD.chT N s7) := Lib.hid (by rw [hN, hn, hs7]; exact ⟨rfl, rfl⟩)
  have hl7 : s7.bs.length ≤ 1000000 := by
    rw [hs7]
    have e2 : s.sn2 = s.sn1.mkTo.lkTo.flagTo := rfl
    exact Nat.le_trans (RD.take_le _ _) (by rw [e2]; exact Nat.le_trans (flagTo_le _) (Nat.le_trans (lkTo_le _) (Nat.le_trans (mkTo_le _) HL.out)))
  have hNn : (N : Int) = max n 0 := by omega
  have HS7 := Lib.hid (And.intro hs7 hn)
  clear r o f hbG hs7 hn hN
  go_wp2
  go_loopw [29] (fun i wr => ∃ (k : Nat) (l : List (List Nat)) (C : Option Addr) (cc : Nat) (F' : List Nat) (t : RD), k ≤ N ∧ i = .int .i64 k ∧ Tb base w wr F F' p t 66 w.heap.size g3 #[.int .i64 0, .int .i64 0, .string ⟨#[]⟩, .bool false, .bool false, .bool false, .slice none 0 0, .string ⟨#[]⟩, .int .i64 0, .int .i64 0, .slice none 0 0] #[.int .i64 s.num, .int .i64 va.size, .string (strOf (s.take 8).bytes), .bool va.on, .bool va.good, .bool s.sn1.mkTo.lkTo.flag, .slice va.M va.row.length va.cm, .string (strOf va.par), .int .i64 va.ps, .int .i64 va.ov, .slice C l.length cc] ∧ va.N wr w.heap.size F' ∧ OwnS wr w.heap.size (.slice C l.length cc) l ∧ (∀ j ∈ rowOf (.slice C 0 0), j ∉ F') ∧ (∀ c ∈ l, ∀ b ∈ c, b < 256) ∧ RD.chL N s7 = l ++ RD.chL (N - k) t ∧ RD.chT N s7 = RD.chT (N - k) t ∧ 9 * l.length + t.bs.length ≤ 1000000) (fun i _ => N - (intOf i).toNat)
  case atStart => exact ⟨0, [], none, 0, FH, s7, by omega, rfl, HTH.out, HVH.out, OwnS.nil _ _, fun j hj => (by cases hj), fun c hc => (by cases hc), by simp, by simp, by simpa using hl7⟩
  case round =>
    obtain ⟨k, l, C, cc, F', t, hk, rfl, htb, hva, hos, hof, hob, hcl, hct, hln⟩ := hrel
    have HTB := Lib.hid htb
    have HVA := Lib.hid hva
    have HOS := Lib.hid (And.intro hos (And.intro hof hob))
    have HCL := Lib.hid (And.intro hcl hct)
    clear htb hva hos hof hob hcl hct
    by_cases hlt : (k : Int) < n
    · have d1 : decide ((k : Int) < n) = true := decide_eq_true hlt
      have hwk : IntKind.i64.wrap ((k : Int) + 1) = (k : Int) + 1 := by rw [IntKind.wrap_i64]; omega
      have hNk : N - k = (N - (k + 1)) + 1 := by omega
      rw [hNk, RD.chL, RD.chT] at HCL
      have hbr := Nat.le_trans hB HTB.out.only.size
      go_wp2_with fail
      refine (rtext_any wr base F' p t HTB.out.rd hbr).mono ?_
      rintro e x1 ⟨rfl, G1, r, o, f⟩
      have HT1 := Lib.hid (HTB.out.read r o f)
      have HV1 := Lib.hid (HVA.out.read o f)
      have HO1 : Hid (OwnS x1 w.heap.size (.slice C l.length cc) l ∧ ∀ j ∈ rowOf (.slice C 0 0), j ∉ G1) := Lib.hid (by
        have hu : ∀ j ∈ rowOf (.slice C 0 0), j < wr.heap.size := fun j hj => row_under HOS.out.1 j (by rw [row_slice C _ _ 0 0]; exact hj)
        exact ⟨row_of HOS.out.1 (fun j hj => o.block j (row_under HOS.out.1 j hj) (HOS.out.2.1 j (by rw [row_slice C 0 0 l.length cc]; exact hj))), fun j hj => far_of (w' := x1) (hu j hj) (HOS.out.2.1 j hj) f⟩)
      have hcb : ∀ b ∈ t.bytes, b < 256 := RD.got_lt (RD.take_good HTB.out.rd.good 8) _
      have hcl : t.bytes.length ≤ 1000000 := by have := bytes_le t; omega
      have HNM := Lib.hid (named_any t.bytes hcb hcl x1)
      have HCB := Lib.hid hcb
      have HCO := Lib.hid (bytes_cost t)
      have HBT := Lib.hid (bytesTo_le t)
      clear r o f hbr hcb hcl
      obtain ⟨c, hc⟩ : ∃ c, c = t.bytes := ⟨_, rfl⟩
      rw [← hc] at HNM HCB HCO HCL ⊢
      have HCC := Lib.hid hc
      clear hc
      go_wp2_with fail
      refine HNM.out.mono ?_
      rintro e x2 ⟨rfl, b2⟩
      have HT2 := Lib.hid (HT1.out.next b2)
      have HV2 := Lib.hid (HV1.out.below b2)
      have HO2 : Hid (OwnS x2 w.heap.size (.slice C l.length cc) l) := Lib.hid (own_below HO1.out.1 b2)
      clear b2 HNM
      cases hnm : namedB c with
      | false =>
        rw [hnm] at HCL
        have K3 := HT2.out.k3
        have K2 := HT2.out.k2
        clear hnm
        go_upto_region 10 with (fail)
        go_wp2_with (first
          | (have _h := K3; refine wpList_loadq rfl 66 (.tmp 3) rfl g3 [.int .i64 s.num, .int .i64 va.size, .string (strOf (s.take 8).bytes), .bool va.on, .bool va.good, .bool s.sn1.mkTo.lkTo.flag, .slice va.M va.row.length va.cm, .string (strOf va.par), .int .i64 va.ps, .int .i64 va.ov, .slice C l.length cc] _ rfl K3 Try.underlying66 rfl (by kernel_rfl) ?_; clear _h K3)
          | (have _h := K2; refine wpList_storeq rfl 66 (.tmp 2) (.tmp 43) rfl w.heap.size _ [.int .i64 s.num, .int .i64 va.size, .string (strOf (s.take 8).bytes), .bool va.on, .bool va.good, .bool s.sn1.mkTo.lkTo.flag, .slice va.M va.row.length va.cm, .string (strOf va.par), .int .i64 va.ps, .int .i64 va.ov, .slice C l.length cc] rfl rfl K2 (by simp) (by kernel_rfl) (one11 _ _ _ _ _ _ _ _ _ _ _ _ _ _ _) ?_; clear _h K2; intro w9 K9 o9 s9))
        refine bodyPost_ret (results_cell_row rfl _ _ w.heap.size 66 _ (0, 0) _ rfl K9 Try.underlying66 rfl (by kernel_rfl)) rfl ?_
        have hT := HT2.out
        refine ⟨⟨s.num, (s.take 8).bytes, s.sn1.mkTo.lkTo.flag, va, l, C, cc⟩, G1, rfl, ?_, ?_, ?_, ?_, hT.fresh⟩
        · have e1 := HCL.out.1
          simp only [Bool.false_eq_true, if_false, List.append_nil] at e1
          exact snv_of s va M cm l HVE.out (HE7.out.1.trans e1) C cc
        · have st := stay_only hT.k2 (by decide) (by decide) o9
          exact ⟨HV2.out.stay st, row_of HO2.out (fun j hj => by obtain ⟨cs, hb⟩ := own_ty HO2.out hj; exact st j _ cs hb (.inr rfl)), HO1.out.2, HOS.out.2.2, RD.got_lt (RD.take_good (RD.take_good HGD.out 8) 8) _, num_range _, Nat.le_trans (bytes_le _) (by have := RD.take_le s 8; omega)⟩
        · rw [HE7.out.2, HCL.out.2]
          simp only [Bool.false_eq_true, if_false]
          exact hT.rd.of (by omega) (fun j hj => o9.block j (hT.rd.under j hj) (fun hm => by simp at hm; subst hm; exact hT.n2 hj))
        · exact ⟨o9.os.trans hT.only.os, o9.tape.trans hT.only.tape, o9.output.trans hT.only.output, by have := hT.only.size; omega, fun i hi hn => (o9.block i (by have := hT.only.size; omega) (by simp; omega)).trans (hT.only.block i hi hn)⟩
      | true =>
        have HNL := Lib.hid (named_len hnm)
        rw [hnm, if_pos rfl, if_pos rfl] at HCL
        have HCOST : Hid (9 * (l.length + 1) + t.bytesTo.bs.length ≤ 1000000) := Lib.hid (by
          have h1 := HNL.out
          have h2 := HCO.out (fun e => by rw [e] at h1; simp at h1)
          omega)
        have K3 := HT2.out.k3
        have k10 : x2.cell? ⟨g3, 10, none⟩ = some (.slice C l.length cc) := K3.cell 10
        have HOA : Hid (∀ tt ff, OwnS (x2.alloc (.cells #[.string (strOf c)] tt ff)) w.heap.size (.slice C l.length cc) l) := Lib.hid fun tt ff => World.ownsRow.alloc HO2.out _
        have hwz := HT2.out.only.size
        have K3a : ∀ tt ff, Blk (x2.alloc (.cells #[.string (strOf c)] tt ff)) g3 66 #[.int .i64 s.num, .int .i64 va.size, .string (strOf (s.take 8).bytes), .bool va.on, .bool va.good, .bool s.sn1.mkTo.lkTo.flag, .slice va.M va.row.length va.cm, .string (strOf va.par), .int .i64 va.ps, .int .i64 va.ov, .slice C l.length cc] := fun tt ff => K3.alloc _
        have HK3a := Lib.hid K3a
        have hl6 : l.length ≤ 200000 := by have := HCOST.out; omega
        clear hnm K3 K3a
        go_upto_region 9 with (first
          | (refine app_strs (.tmp 37) (.tmp 39) rfl rfl w.heap.size (.slice C l.length cc) l rfl (HOA.out _ _) _ (some ⟨x2.heap.size, 0, none⟩) 1 1 [c] rfl rfl (Reads.new x2 [.string (strOf c)] _ _) (by omega) (by rw [World.size_alloc]; omega) ?_; intro v5 x5 h5 gr5 a5; obtain ⟨C5, c5, rfl⟩ := own_form h5; rw [show (l ++ [c]).length = l.length + 1 from by simp]; have K5 := (HK3a.out 9 (0, 0)).grown gr5 (fun e => own_blk_ne (HOA.out 9 (0, 0)) (HK3a.out 9 (0, 0)) (by decide) e.symm))
          | (have _h := K5; refine wpList_setq rfl 64 (.tmp 41) (.tmp 40) rfl g3 10 66 _ (.slice C5 (l.length + 1) c5) rfl rfl K5 (by simp) (by kernel_rfl) rfl ?_; have K5' := K5; clear _h K5; intro x6 K6 o6 s6; have K6' := K6; clear K6))
        go_wp2
        go_roundw
        case rel =>
          have hba := below_alloc x2
          refine ⟨k + 1, l ++ [c], C5, c5, G1, t.bytesTo, by omega, by go_num, ?_, ?_, ?_, ?_, ?_, by rw [HCL.out.1]; simp, by rw [HCL.out.2], by simpa using HCOST.out⟩
          · have hA := HT2.out.next (hba (.cells #[.string (strOf c)] 9))
            have hG := hA.grow gr5 (fun j hj => by
              have hjr : j ∈ rowOf (.slice C l.length cc) := mem_rowOf.2 hj
              obtain ⟨cs, hb⟩ := own_ty HO2.out hjr
              have hb2 : Blk (x2.alloc (.cells #[.string (strOf c)] 9)) j 9 cs := hb.alloc _
              exact ⟨HO1.out.2 j (by rw [row_slice C 0 0 l.length cc]; exact hjr), hb2.ne_ hA.k2 (by decide), hb2.ne_ hA.k3 (by decide), (World.ownsRow.lt HO2.out j hj).1⟩)
            have := hG.store HNE.out K6' o6 s6
            simpa using this
          · refine HV2.out.of fun j hj => ?_
            obtain ⟨cs, hb⟩ := HV2.out.ty hj
            have hb2 : Blk (x2.alloc (.cells #[.string (strOf c)] 9)) j 5 cs := hb.alloc _
            have hb3 : Blk x5 j 5 cs := hb2.grown gr5 (fun e => own_blk_ne (HOA.out 9 (0, 0)) hb2 (by decide) e.symm)
            have hb4 : Blk x6 j 5 cs := hb3.only o6 (by simp; exact fun e => by subst e; exact hb3.ne_ K5' (by decide) rfl)
            exact hb4.trans hb.symm
          · exact row_of h5 fun j hj => o6.block j (row_under h5 j hj) (fun hm => by simp at hm; subst hm; obtain ⟨cs, hb⟩ := own_ty h5 hj; exact hb.ne_ K5' (by decide) rfl)
          · intro j hj
            have hj2 : (Value.slice C5 (l ++ [c]).length c5).ownBlock = some j := mem_rowOf.1 (by rw [row_slice C5 _ _ 0 0]; exact hj)
            rcases a5 with a5 | a5
            · rw [a5] at hj2
              exact HO1.out.2 j (by rw [row_slice C 0 0 l.length cc]; exact mem_rowOf.2 hj2)
            · rw [a5] at hj2
              injection hj2 with hj2
              intro hm
              have := HT2.out.rd.under j hm
              rw [World.size_alloc] at hj2
              omega
          · intro x hx
            rcases List.mem_append.1 hx with hx | hx
            · exact HOS.out.2.2 x hx
            · simp at hx; subst hx; exact HCB.out
        case measure => simp [intOf]; omega
    · have d1 : decide ((k : Int) < n) = false := decide_eq_false hlt
      have hNk : N - k = 0 := by omega
      rw [hNk, RD.chL, RD.chT, List.append_nil] at HCL
      have HT2 := HTB
      have HV2 := HVA
      have HO2 : Hid (OwnS wr w.heap.size (.slice C l.length cc) l) := Lib.hid HOS.out.1
      have K3 := HT2.out.k3
      have K2 := HT2.out.k2
      go_upto_region 10 with (fail)
      go_wp2_with (first
        | (have _h := K3; refine wpList_loadq rfl 66 (.tmp 3) rfl g3 [.int .i64 s.num, .int .i64 va.size, .string (strOf (s.take 8).bytes), .bool va.on, .bool va.good, .bool s.sn1.mkTo.lkTo.flag, .slice va.M va.row.length va.cm, .string (strOf va.par), .int .i64 va.ps, .int .i64 va.ov, .slice C l.length cc] _ rfl K3 Try.underlying66 rfl (by kernel_rfl) ?_; clear _h K3)
        | (have _h := K2; refine wpList_storeq rfl 66 (.tmp 2) (.tmp 43) rfl w.heap.size _ [.int .i64 s.num, .int .i64 va.size, .string (strOf (s.take 8).bytes), .bool va.on, .bool va.good, .bool s.sn1.mkTo.lkTo.flag, .slice va.M va.row.length va.cm, .string (strOf va.par), .int .i64 va.ps, .int .i64 va.ov, .slice C l.length cc] rfl rfl K2 (by simp) (by kernel_rfl) (one11 _ _ _ _ _ _ _ _ _ _ _ _ _ _ _) ?_; clear _h K2; intro w9 K9 o9 s9))
      refine bodyPost_ret (results_cell_row rfl _ _ w.heap.size 66 _ (0, 0) _ rfl K9 Try.underlying66 rfl (by kernel_rfl)) rfl ?_
      have hT := HT2.out
      refine ⟨⟨s.num, (s.take 8).bytes, s.sn1.mkTo.lkTo.flag, va, l, C, cc⟩, F', rfl, ?_, ?_, ?_, ?_, hT.fresh⟩
      · have e1 := HCL.out.1
        exact snv_of s va M cm l HVE.out (HE7.out.1.trans e1) C cc
      · have st := stay_only hT.k2 (by decide) (by decide) o9
        exact ⟨HV2.out.stay st, row_of HO2.out (fun j hj => by obtain ⟨cs, hb⟩ := own_ty HO2.out hj; exact st j _ cs hb (.inr rfl)), HOS.out.2.1, HOS.out.2.2, RD.got_lt (RD.take_good (RD.take_good HGD.out 8) 8) _, num_range _, Nat.le_trans (bytes_le _) (by have := RD.take_le s 8; omega)⟩
      · rw [HE7.out.2, HCL.out.2]
        exact hT.rd.of (by omega) (fun j hj => o9.block j (hT.rd.under j hj) (fun hm => by simp at hm; subst hm; exact hT.n2 hj))
      · exact ⟨o9.os.trans hT.only.os, o9.tape.trans hT.only.tape, o9.output.trans hT.only.output, by have := hT.only.size; omega, fun i hi hn => (o9.block i (by have := hT.only.size; omega) (by simp; omega)).trans (hT.only.block i hi hn)⟩
end Go.Proofs.Ytgddenhnpjoabaa

/-
  What is read of a head that tells of no snapshot. Conditions: the reader lies where it is said to; its bytes are no more than a million.
-/
namespace Go.Proofs.Ytgddenhnpjoabaa
open Go.RowKit Go.BigFrame
set_option linter.unusedSimpArgs false
set_option linter.unusedVariables false
set_option maxRecDepth 100000
theorem head_zero (w : World) : (zeroValue 36).run Try.prog w = .ok (.agg #[.int .i64 0, .int .i64 0, .int .i64 0, .int .i64 0, .slice none 0 0, .bool false, .bool false, .slice none 0 0, .string ⟨#[]⟩, .int .i64 0, .int .i64 0, .int .i64 0, .int .i64 0, .int .i64 0]) w := by kernel_rfl
def THeadTo (w : World) (base : Nat) (F : List Nat) (p : Option Addr) (s : RD) (e : Ending) (w' : World) : Prop :=
  ∃ (a : HA) (F' : List Nat), e = .returned (.agg a.cs) ∧ a.v = s.hdv ∧ a.vw.N w' w.heap.size F' ∧ (∀ x ∈ a.sn, x.N w' w.heap.size F') ∧ w'.ownsRow w.heap.size 66 11 (.slice a.S a.sn.length a.cs') a.sn.length (a.sn.flatMap SA.cells) ∧ (∀ k ∈ rowOf (.slice a.S 0 0), k ∉ F') ∧ Rd w' base F' p s.hdTo ∧ Only F w w' ∧ Fresh w F F'
theorem hdv_of (s : RD) (va : VA) (M : Option Addr) (cm : Nat) (hc : s.four.num = 0) (h : va = ⟨(s.take 8).num, (s.four.take 8).flag, (s.four.take 8).flagTo.flag, marksOf (s.four.take 8).flagTo.flagTo.bytes, M, cm, (s.four.take 8).mkTo.lkv.par, (s.four.take 8).mkTo.lkv.ps, (s.four.take 8).mkTo.lkv.ov⟩) (S : Option Addr) (c : Nat) :
    HA.v ⟨s.num, ((s.take 8).take 8).num, (((s.take 8).take 8).take 8).num, S, c, [], va, (s.four.take 8).mkTo.lkTo.num, ((s.four.take 8).mkTo.lkTo.take 8).num, (((s.four.take 8).mkTo.lkTo.take 8).take 8).num⟩ = s.hdv ∧ s.hdTo = (((s.four.take 8).mkTo.lkTo.take 8).take 8).take 8 := by
  have hcnt : s.cnt = 0 := by unfold RD.cnt; rw [hc]; rfl
  have h1 : s.hd1 = s.four.take 8 := by unfold RD.hd1; rw [hcnt]; rfl
  have h2 : s.hd2 = (s.four.take 8).mkTo.lkTo := by unfold RD.hd2; rw [h1]
  subst h
  unfold RD.hdv RD.hdTo
  rw [hcnt, h2, h1]
  exact ⟨rfl, rfl⟩
theorem one14 (a b c d x y z : Int) (p q : Bool) (M C : Option Addr) (n cm m cc : Nat) (par : ByteArray) (e f : Int) : ∀ u ∈ [Value.int .i64 a, .int .i64 b, .int .i64 c, .int .i64 d, .slice C m cc, .bool p, .bool q, .slice M n cm, .string par, .int .i64 e, .int .i64 f, .int .i64 x, .int .i64 y, .int .i64 z], u.oneCell' = true := by
  intro u hu
  simp at hu
  rcases hu with rfl | rfl | rfl | rfl | rfl | rfl | rfl | rfl | rfl | rfl | rfl | rfl | rfl | rfl <;> rfl
set_option maxHeartbeats 16000000 in
theorem thead0_any (w : World) (base : Nat) (F : List Nat) (p : Option Addr) (s : RD) (h : Rd w base F p s) (hB : base ≤ w.heap.size) (hs : s.bs.length ≤ 1000000) (hc : s.four.num = 0) :
    Calls Try.prog 50 #[.pointer p] w (THeadTo w base F p s) := by
  obtain ⟨w0, hw0⟩ : ∃ w0, w0 = w.alloc (.cells #[.int .i64 0, .int .i64 0, .int .i64 0, .int .i64 0, .slice none 0 0, .bool false, .bool false, .slice none 0 0, .string ⟨#[]⟩, .int .i64 0, .int .i64 0, .int .i64 0, .int .i64 0, .int .i64 0] 36) := ⟨_, rfl⟩
  have hb0 : Below w.heap.size w w0 := by rw [hw0]; exact below_alloc w _
  have k0 : Blk w0 w.heap.size 36 #[.int .i64 0, .int .i64 0, .int .i64 0, .int .i64 0, .slice none 0 0, .bool false, .bool false, .slice none 0 0, .string ⟨#[]⟩, .int .i64 0, .int .i64 0, .int .i64 0, .int .i64 0, .int .i64 0] := by rw [hw0]; exact Blk.new w _ _
  have hn : w.heap.size ∉ F := fun hm => by have := h.under _ hm; omega
  have HR0 := Lib.hid (h.below hb0)
  have HW := Lib.hid hw0
  have HK := Lib.hid (And.intro k0 hn)
  have HB0 := Lib.hid hb0
  have hz := head_zero
  have HHV := Lib.hid (hdv_of s)
  have HC := Lib.hid hc
  obtain ⟨s5, hs5⟩ : ∃ s5, s5 = s.four.take 8 := ⟨_, rfl⟩
  have HL : Hid (s5.bs.length ≤ 1000000) := Lib.hid (by rw [hs5]; exact Nat.le_trans (RD.take_le _ _) (Nat.le_trans (RD.take_le _ _) (Nat.le_trans (RD.take_le _ _) (Nat.le_trans (RD.take_le _ _) (Nat.le_trans (RD.take_le _ _) hs)))))
  have HS5 := Lib.hid hs5
  rw [← hs5] at HHV
  obtain ⟨i1, hi1⟩ : ∃ i1, i1 = s.num := ⟨_, rfl⟩
  obtain ⟨i2, hi2⟩ : ∃ i2, i2 = (s.take 8).num := ⟨_, rfl⟩
  obtain ⟨i3, hi3⟩ : ∃ i3, i3 = ((s.take 8).take 8).num := ⟨_, rfl⟩
  obtain ⟨i4, hi4⟩ : ∃ i4, i4 = (((s.take 8).take 8).take 8).num := ⟨_, rfl⟩
  rw [← hi1, ← hi2, ← hi3, ← hi4] at HHV
  have HI := Lib.hid (And.intro hi1 (And.intro hi2 (And.intro hi3 hi4)))
  have HI2 : Hid (I64 i2) := Lib.hid (by rw [hi2]; exact num_range _)
  clear h hw0 k0 hn hb0 hc hs5 hs hi1 hi2 hi3 hi4
  go_enter Try.func50, Try.ntmps50
  go_upto_region 1 with (fail)
  rw [← HW.out]
  clear HW hz
  go_wp2_with fail
  refine (rnum_any w0 base F p _ HR0.out (Nat.le_trans hB HB0.out.size)).mono ?_
  rintro e w1 ⟨rfl, G1, r, o, f⟩
  rw [← HI.out.1]
  have H1 := Lib.hid (And.intro r (And.intro o f))
  clear r o f
  go_wp2_with fail
  refine (rnum_any w1 base G1 p _ H1.out.1 (Nat.le_trans hB (Nat.le_trans HB0.out.size H1.out.2.1.size))).mono ?_
  rintro e w2 ⟨rfl, G2, r, o, f⟩
  rw [← HI.out.2.1]
  have H2 := Lib.hid (And.intro r (And.intro (H1.out.2.1.trans o H1.out.2.2) (H1.out.2.2.trans f H1.out.2.1.size)))
  clear r o f
  go_wp2_with fail
  refine (rnum_any w2 base G2 p _ H2.out.1 (Nat.le_trans hB (Nat.le_trans HB0.out.size H2.out.2.1.size))).mono ?_
  rintro e w3 ⟨rfl, G3, r, o, f⟩
  rw [← HI.out.2.2.1]
  have H3 := Lib.hid (And.intro r (And.intro (H2.out.2.1.trans o H2.out.2.2) (H2.out.2.2.trans f H2.out.2.1.size)))
  clear r o f
  go_wp2_with fail
  refine (rnum_any w3 base G3 p _ H3.out.1 (Nat.le_trans hB (Nat.le_trans HB0.out.size H3.out.2.1.size))).mono ?_
  rintro e w4 ⟨rfl, G4, r, o, f⟩
  rw [← HI.out.2.2.2]
  have H4 := Lib.hid (And.intro r (And.intro (H3.out.2.1.trans o H3.out.2.2) (H3.out.2.2.trans f H3.out.2.1.size)))
  clear r o f
  obtain ⟨w5, hw5⟩ : ∃ w5, w5 = w4.alloc (.cells #[.int .i64 i1, .int .i64 i2, .int .i64 i3, .int .i64 i4, .slice none 0 0, .bool false, .bool false, .slice none 0 0, .string ⟨#[]⟩, .int .i64 0, .int .i64 0, .int .i64 0, .int .i64 0, .int .i64 0] 36) := ⟨_, rfl⟩
  obtain ⟨g3, hg3⟩ : ∃ g3, g3 = w4.heap.size := ⟨_, rfl⟩
  have hlt03 : w.heap.size < w4.heap.size := Nat.lt_of_lt_of_le HK.out.1.lt H4.out.2.1.size
  have HT5 : Hid (Tb base w w5 F G4 p s.four 36 w.heap.size g3 #[.int .i64 0, .int .i64 0, .int .i64 0, .int .i64 0, .slice none 0 0, .bool false, .bool false, .slice none 0 0, .string ⟨#[]⟩, .int .i64 0, .int .i64 0, .int .i64 0, .int .i64 0, .int .i64 0] #[.int .i64 i1, .int .i64 i2, .int .i64 i3, .int .i64 i4, .slice none 0 0, .bool false, .bool false, .slice none 0 0, .string ⟨#[]⟩, .int .i64 0, .int .i64 0, .int .i64 0, .int .i64 0, .int .i64 0]) := Lib.hid (by
    have hb4 : Below w4.heap.size w4 w5 := by rw [hw5]; exact below_alloc w4 _
    refine ⟨H4.out.1.below hb4, (Only.of_below HB0.out F).trans (H4.out.2.1.trans (Only.of_below hb4 G4) H4.out.2.2) (Fresh.refl _ _), fun x hx => (H4.out.2.2 x hx).imp id (Nat.le_trans HB0.out.size), (HK.out.1.of (H4.out.2.1.block _ HK.out.1.lt HK.out.2)).of (hb4.block _ hlt03), far_of (w' := w4) HK.out.1.lt HK.out.2 H4.out.2.2, ?_, ?_, ?_, ?_⟩
    · rw [hw5, hg3]; exact Blk.new w4 _ _
    · rw [hg3]; exact fun hm => by have := H4.out.1.under _ hm; omega
    · exact Nat.le_refl _
    · omega)
  have HNE : Hid (w.heap.size ≠ g3) := Lib.hid (by rw [hg3]; omega)
  have HW5 := Lib.hid (And.intro hw5 hg3)
  clear hw5 hg3
  go_upto_region 2 with (fail)
  rw [← HW5.out.1, ← HW5.out.2]
  clear HW5
  have hb5 := Nat.le_trans hB HT5.out.only.size
  go_wp2_with fail
  refine (rnum_any w5 base G4 p _ HT5.out.rd hb5).mono ?_
  rintro e w6 ⟨rfl, G6, r, o, f⟩
  rw [← HS5.out] at r
  rw [HC.out]
  have HT6 := Lib.hid (HT5.out.read r o f)
  clear r o f hb5
  go_wp2
  go_loopw [16] (fun i wr => i = .int .i64 0 ∧ wr = w6) (fun _ _ => 0)
  case atStart => exact ⟨rfl, by trivial⟩
  case round =>
  obtain ⟨rfl, rfl⟩ := hrel
  go_upto_region 6 with (fail)
  have hb6 := Nat.le_trans hB HT6.out.only.size
  go_wp2_with fail
  refine (rflag_any wr base G6 p _ HT6.out.rd hb6).mono ?_
  rintro e w7 ⟨rfl, G7, r, o, f⟩
  have HT7 := Lib.hid (HT6.out.read r o f)
  clear r o f hb6
  have hb7 := Nat.le_trans hB HT7.out.only.size
  go_wp2_with fail
  refine (rflag_any w7 base G7 p _ HT7.out.rd hb7).mono ?_
  rintro e w8 ⟨rfl, G8, r, o, f⟩
  have HT8 := Lib.hid (HT7.out.read r o f)
  clear r o f hb7
  have hb8 := Nat.le_trans hB HT8.out.only.size
  have hl8 : s5.flagTo.flagTo.bs.length ≤ 1000000 := Nat.le_trans (flagTo_le _) (Nat.le_trans (flagTo_le _) HL.out)
  go_wp2_with fail
  refine (tmarks_any w8 base G8 p _ HT8.out.rd hb8 hl8).mono ?_
  rintro e w9 ⟨M, cm, G9, rfl, hm, r, o, f, far⟩
  have HT9 := Lib.hid (HT8.out.read r o f)
  have HM9 := Lib.hid (And.intro (Own.weaken (base' := w.heap.size) hm HT8.out.only.size) far)
  clear r o f hb8 hl8 hm far
  have hb9 := Nat.le_trans hB HT9.out.only.size
  go_wp2_with fail
  refine (tlink_any w9 base G9 p _ HT9.out.rd hb9).mono ?_
  rintro e w10 ⟨rfl, G10, r, o, f⟩
  obtain ⟨s7, hs7⟩ : ∃ s7, s7 = s5.mkTo.lkTo := ⟨_, rfl⟩
  have HT10 : Hid (Tb base w w10 F G10 p s7 36 w.heap.size g3 #[.int .i64 0, .int .i64 0, .int .i64 0, .int .i64 0, .slice none 0 0, .bool false, .bool false, .slice none 0 0, .string ⟨#[]⟩, .int .i64 0, .int .i64 0, .int .i64 0, .int .i64 0, .int .i64 0] #[.int .i64 i1, .int .i64 i2, .int .i64 i3, .int .i64 i4, .slice none 0 0, .bool false, .bool false, .slice none 0 0, .string ⟨#[]⟩, .int .i64 0, .int .i64 0, .int .i64 0, .int .i64 0, .int .i64 0]) := Lib.hid (by rw [hs7]; exact HT9.out.read r o f)
  obtain ⟨va, hva⟩ : ∃ va : VA, va = ⟨i2, s5.flag, s5.flagTo.flag, marksOf s5.flagTo.flagTo.bytes, M, cm, s5.mkTo.lkv.par, s5.mkTo.lkv.ps, s5.mkTo.lkv.ov⟩ := ⟨_, rfl⟩
  have HVA10 : Hid (va.N w10 w.heap.size G10) := Lib.hid (by
    have hk : ∀ k ∈ rowOf (.slice M 0 0), k < w9.heap.size := fun k hk => row_under HM9.out.1 k (by rw [row_slice M _ _ 0 0]; exact hk)
    have hg := HT9.out.rd.good
    have hle : s5.mkTo.lkv.par.length ≤ 1000000 := Nat.le_trans (bytes_le _) (Nat.le_trans (mkTo_le _) HL.out)
    subst hva
    exact ⟨row_of HM9.out.1 (fun k h9 => o.block k (row_under HM9.out.1 k h9) (HM9.out.2 k (by rw [row_slice M 0 0 (marksOf s5.flagTo.flagTo.bytes).length cm]; exact h9))), fun k h9 => far_of (w' := w10) (hk k h9) (HM9.out.2 k h9) f, fun b hb => by have := (marksOf_good s5.flagTo.flagTo.bytes).2 b hb; omega, RD.got_lt (RD.take_good hg 8) _, HI2.out, num_range _, num_range _, hle⟩)
  have HVE := Lib.hid hva
  have HHF := Lib.hid (HHV.out va M cm HC.out hva none 0)
  have K10 := HT10.out.k3
  rw [← hs7] at HHF
  have HS7 := Lib.hid hs7
  clear r o f hb9 hva hs7 HHV
  go_wp2_with (first
    | (have _h := K10; refine wpList_setq rfl 4 (.tmp 34) (.tmp 27) rfl g3 5 36 _ (.bool s5.flag) rfl rfl K10 (by simp) (by kernel_rfl) rfl ?_; clear _h K10; intro wA KA oA sA)
    | (have _h := KA; refine wpList_setq rfl 4 (.tmp 35) (.tmp 29) rfl g3 6 36 _ (.bool s5.flagTo.flag) rfl rfl KA (by simp) (by kernel_rfl) rfl ?_; have KA' := KA; clear _h KA; intro wB KB oB sB)
    | (have _h := KB; refine wpList_setq rfl 33 (.tmp 36) (.tmp 31) rfl g3 7 36 _ (.slice M (marksOf s5.flagTo.flagTo.bytes).length cm) rfl rfl KB (by simp) (by kernel_rfl) rfl ?_; have KB' := KB; clear _h KB; intro wC KC oC sC)
    | (have _h := KC; refine wpList_set3 rfl 34 (.tmp 37) (.tmp 33) rfl g3 8 36 _ (.string (strOf s5.mkTo.lkv.par)) (.int .i64 s5.mkTo.lkv.ps) (.int .i64 s5.mkTo.lkv.ov) rfl rfl KC (by simp) (by kernel_rfl) rfl rfl rfl ?_; have KC' := KC; clear _h KC; intro wD KD oD sD; have KD' := KD; clear KD))
  have HTD : Hid (Tb base w wD F G10 p s7 36 w.heap.size g3 #[.int .i64 0, .int .i64 0, .int .i64 0, .int .i64 0, .slice none 0 0, .bool false, .bool false, .slice none 0 0, .string ⟨#[]⟩, .int .i64 0, .int .i64 0, .int .i64 0, .int .i64 0, .int .i64 0] #[.int .i64 i1, .int .i64 va.size, .int .i64 i3, .int .i64 i4, .slice none 0 0, .bool va.on, .bool va.good, .slice va.M va.row.length va.cm, .string (strOf va.par), .int .i64 va.ps, .int .i64 va.ov, .int .i64 0, .int .i64 0, .int .i64 0]) := Lib.hid (by
    have := (((HT10.out.store HNE.out KA' oA sA).store HNE.out KB' oB sB).store HNE.out KC' oC sC).store HNE.out KD' oD sD
    rw [HVE.out]
    simpa using this)
  have HVD : Hid (va.N wD w.heap.size G10) := Lib.hid ((((HVA10.out.stay (stay_only HT10.out.k3 (by decide) (by decide) oA)).stay (stay_only KA' (by decide) (by decide) oB)).stay (stay_only KB' (by decide) (by decide) oC)).stay (stay_only KC' (by decide) (by decide) oD))
  clear KA' KB' KC' KD' oA oB oC oD sA sB sC sD
  obtain ⟨j1, hj1⟩ : ∃ j1, j1 = s7.num := ⟨_, rfl⟩
  obtain ⟨j2, hj2⟩ : ∃ j2, j2 = (s7.take 8).num := ⟨_, rfl⟩
  obtain ⟨j3, hj3⟩ : ∃ j3, j3 = ((s7.take 8).take 8).num := ⟨_, rfl⟩
  rw [← hj1, ← hj2, ← hj3] at HHF
  have HJ := Lib.hid (And.intro hj1 (And.intro hj2 hj3))
  clear hj1 hj2 hj3
  have hbx := Nat.le_trans hB HTD.out.only.size
  go_wp2_with fail
  refine (rnum_any wD base G10 p _ HTD.out.rd hbx).mono ?_
  rintro e y0 ⟨rfl, K0, r, o, f⟩
  rw [← HJ.out.1]
  have HTY0 := Lib.hid (HTD.out.read r o f)
  have HVY0 := Lib.hid (HVD.out.read o f)
  clear r o f hbx
  have hbx := Nat.le_trans hB HTY0.out.only.size
  go_wp2_with fail
  refine (rnum_any y0 base K0 p _ HTY0.out.rd hbx).mono ?_
  rintro e y1 ⟨rfl, K1, r, o, f⟩
  rw [← HJ.out.2.1]
  have HTY1 := Lib.hid (HTY0.out.read r o f)
  have HVY1 := Lib.hid (HVY0.out.read o f)
  clear r o f hbx
  have hbx := Nat.le_trans hB HTY1.out.only.size
  go_wp2_with fail
  refine (rnum_any y1 base K1 p _ HTY1.out.rd hbx).mono ?_
  rintro e y2 ⟨rfl, K2, r, o, f⟩
  rw [← HJ.out.2.2]
  have HTY2 := Lib.hid (HTY1.out.read r o f)
  have HVY2 := Lib.hid (HVY1.out.read o f)
  clear r o f hbx
  have KY := HTY2.out.k3
  go_upto_region 8 with (first
    | (have _h := KY; refine wpList_setq rfl 3 (.tmp 44) (.tmp 39) rfl g3 11 36 _ (.int .i64 j1) rfl rfl KY (by simp) (by kernel_rfl) rfl ?_; clear _h KY; intro wA KA oA sA)
    | (have _h := KA; refine wpList_setq rfl 3 (.tmp 45) (.tmp 41) rfl g3 12 36 _ (.int .i64 j2) rfl rfl KA (by simp) (by kernel_rfl) rfl ?_; have KA' := KA; clear _h KA; intro wB KB oB sB)
    | (have _h := KB; refine wpList_setq rfl 3 (.tmp 46) (.tmp 43) rfl g3 13 36 _ (.int .i64 j3) rfl rfl KB (by simp) (by kernel_rfl) rfl ?_; have KB' := KB; clear _h KB; intro wC KC oC sC; have KC' := KC; clear KC))
  have HTE : Hid (Tb base w wC F K2 p (((s7.take 8).take 8).take 8) 36 w.heap.size g3 #[.int .i64 0, .int .i64 0, .int .i64 0, .int .i64 0, .slice none 0 0, .bool false, .bool false, .slice none 0 0, .string ⟨#[]⟩, .int .i64 0, .int .i64 0, .int .i64 0, .int .i64 0, .int .i64 0] #[.int .i64 i1, .int .i64 va.size, .int .i64 i3, .int .i64 i4, .slice none 0 0, .bool va.on, .bool va.good, .slice va.M va.row.length va.cm, .string (strOf va.par), .int .i64 va.ps, .int .i64 va.ov, .int .i64 j1, .int .i64 j2, .int .i64 j3]) := Lib.hid (by
    have := ((HTY2.out.store HNE.out KA' oA sA).store HNE.out KB' oB sB).store HNE.out KC' oC sC
    simpa using this)
  have HVZ : Hid (va.N wC w.heap.size K2) := Lib.hid (((HVY2.out.stay (stay_only HTY2.out.k3 (by decide) (by decide) oA)).stay (stay_only KA' (by decide) (by decide) oB)).stay (stay_only KB' (by decide) (by decide) oC))
  have K3 := HTE.out.k3
  have Q2 := HTE.out.k2
  clear KA' KB' KC' oA oB oC sA sB sC
  go_wp2_with (first
    | (have _h := K3; refine wpList_loadq rfl 36 (.tmp 3) rfl g3 [.int .i64 i1, .int .i64 va.size, .int .i64 i3, .int .i64 i4, .slice none 0 0, .bool va.on, .bool va.good, .slice va.M va.row.length va.cm, .string (strOf va.par), .int .i64 va.ps, .int .i64 va.ov, .int .i64 j1, .int .i64 j2, .int .i64 j3] _ rfl K3 Try.underlying36 rfl (by kernel_rfl) ?_; clear _h K3)
    | (have _h := Q2; refine wpList_storeq rfl 36 (.tmp 2) (.tmp 47) rfl w.heap.size _ [.int .i64 i1, .int .i64 va.size, .int .i64 i3, .int .i64 i4, .slice none 0 0, .bool va.on, .bool va.good, .slice va.M va.row.length va.cm, .string (strOf va.par), .int .i64 va.ps, .int .i64 va.ov, .int .i64 j1, .int .i64 j2, .int .i64 j3] rfl rfl Q2 (by simp) (by kernel_rfl) (one14 _ _ _ _ _ _ _ _ _ _ _ _ _ _ _ _ _ _) ?_; clear _h Q2; intro w99 K99 o9 s9))
  refine bodyPost_ret (results_cell_row rfl _ _ w.heap.size 36 _ (0, 0) _ rfl K99 Try.underlying36 rfl (by kernel_rfl)) rfl ?_
  have hT := HTE.out
  have st := stay_only hT.k2 (by decide) (by decide) o9
  refine ⟨⟨i1, i3, i4, none, 0, [], va, j1, j2, j3⟩, K2, rfl, HHF.out.1, HVZ.out.stay st, fun x hx => (by cases hx), World.ownsRow_nil _ _ _ 11, fun k hk => (by cases hk), ?_, ?_, hT.fresh⟩
  · rw [HHF.out.2]
    exact hT.rd.of (by omega) (fun j hj => o9.block j (hT.rd.under j hj) (fun hm => by simp at hm; subst hm; exact hT.n2 hj))
  · exact ⟨o9.os.trans hT.only.os, o9.tape.trans hT.only.tape, o9.output.trans hT.only.output, by have := hT.only.size; omega, fun i hi hn => (o9.block i (by have := hT.only.size; omega) (by simp; omega)).trans (hT.only.block i hi hn)⟩
end Go.Proofs.Ytgddenhnpjoabaa

/-
  Take of heads, where takeHead reads as it is said to. Conditions: the bytes are no more than a million; what is read is small.
-/
namespace Go.Proofs.Ytgddenhnpjoabaa
open Go.RowKit Go.BigFrame
set_option linter.unusedSimpArgs false
set_option linter.unusedVariables false
set_option maxRecDepth 100000
theorem results_cell_tmp9 {P : Program} {fn : Func} {p q : Tmp} {ty : TypeId} (h : fn.results = #[.cell p ty, .tmp q]) (tmps : Array Value) (w : World) (g : Nat) (t : TypeId) (cs : Array Value) (fr : Nat × Nat) (d : TypeDesc) (v : Value)
    (hp : tmps.getD p undef = .pointer (some ⟨g, 0, none⟩)) (hq : tmps.getD q undef = v) (hg : w.heap[g]? = some (.cells cs t fr))
    (hu : P.underlying ty = some d) (hd : (match d with | .struct _ | .array _ _ => true | _ => false) = true) (hi : (P.info? ty).map (·.size) = some cs.size) :
    (results fn tmps).run P w = .ok (.tuple #[.agg cs, v]) w := by
  have hp' : tmps[p]?.getD undef = .pointer (some ⟨g, 0, none⟩) := by simpa using hp
  have hq' : tmps[q]?.getD undef = v := by simpa using hq
  simp [results, h, hp', hq', asAddr, run_loadVar_row w g t ty cs fr d hg hu hd hi]
/-- a head of the call's own -/
structure HA.N (a : HA) (w : World) (base : Nat) (F : List Nat) : Prop where
  vw : a.vw.N w base F
  sn : ∀ x ∈ a.sn, x.N w base F
  own : w.ownsRow base 66 11 (.slice a.S a.sn.length a.cs') a.sn.length (a.sn.flatMap SA.cells)
  id : I64 a.id
  obj : I64 a.obj
  seq : I64 a.seq
  ow : I64 a.ow
  it : I64 a.it
  tg : I64 a.tg
theorem HA.N.R {a : HA} {w : World} {base : Nat} {F : List Nat} (h : a.N w base F) : a.R SA.cells w := by
  obtain ⟨-, c1, c2, -⟩ := own_shape h.own
  unfold maxLen at c2
  exact ⟨h.vw.R, Reads.of_own h.own, fun s hs => (h.sn s hs).R, h.id, h.obj, h.seq, h.ow, h.it, h.tg, by omega, c1⟩
theorem hdv_i64 (s : RD) : I64 s.hdv.id ∧ I64 s.hdv.obj ∧ I64 s.hdv.seq ∧ I64 s.hdv.ow ∧ I64 s.hdv.it ∧ I64 s.hdv.tg := ⟨num_range _, num_range _, num_range _, num_range _, num_range _, num_range _⟩
theorem HA.N.below {a : HA} {w w' : World} {base : Nat} {F : List Nat} (h : a.N w base F) (hb : Below w.heap.size w w') : a.N w' base F :=
  ⟨h.vw.below hb, fun x hx => (h.sn x hx).below hb, own_below h.own hb, h.id, h.obj, h.seq, h.ow, h.it, h.tg⟩
theorem HA.N.weaken {a : HA} {w : World} {base base' : Nat} {F : List Nat} (h : a.N w base F) (hb : base' ≤ base) : a.N w base' F :=
  ⟨h.vw.weaken hb, fun x hx => (h.sn x hx).weaken hb, row_weaken h.own hb, h.id, h.obj, h.seq, h.ow, h.it, h.tg⟩
theorem HA.N.alone {a : HA} {w : World} {base : Nat} {F : List Nat} (h : a.N w base F) : a.N w base [] :=
  ⟨⟨h.vw.own, fun _ _ h => (by cases h), h.vw.ok, h.vw.par, h.vw.size, h.vw.ps, h.vw.ov, h.vw.pl⟩, fun x hx => by
    have q := h.sn x hx
    exact ⟨⟨q.vw.own, fun _ _ h => (by cases h), q.vw.ok, q.vw.par, q.vw.size, q.vw.ps, q.vw.ov, q.vw.pl⟩, q.own, fun _ _ h => (by cases h), q.ok, q.name, q.num, q.nl⟩, h.own, h.id, h.obj, h.seq, h.ow, h.it, h.tg⟩
/-- a store to one head's block turns none of it -/
theorem HA.N.stay {a : HA} {w w' : World} {base g : Nat} {F : List Nat} {cs : Array Value} (h : a.N w base F) (hk : Blk w g 36 cs) (o : Only [g] w w') : a.N w' base F := by
  have st := stay_only hk (by decide) (by decide) o
  refine ⟨h.vw.stay st, fun x hx => (h.sn x hx).stay st, row_of h.own fun k hm => o.block k (row_under h.own k hm) (fun hx => ?_), h.id, h.obj, h.seq, h.ow, h.it, h.tg⟩
  simp at hx
  subst hx
  obtain ⟨cs', hb⟩ := own_ty h.own hm
  exact hb.ne_ hk (by decide) rfl
def TakeH (b : List Nat) : Prop := (⟨b, false⟩ : RD).hdv.B = true ∧ (⟨b, false⟩ : RD).hdv.put = b
def HTakeTo (w : World) (b : List Nat) (e : Ending) (w' : World) : Prop :=
  Below w.heap.size w w' ∧ ((TakeH b ∧ ∃ a : HA, e = .returned (.tuple #[.agg a.cs, .nilIface]) ∧ a.v = (⟨b, false⟩ : RD).hdv ∧ a.N w' w.heap.size []) ∨ (¬ TakeH b ∧ e = .returned (.tuple #[.agg #[.int .i64 0, .int .i64 0, .int .i64 0, .int .i64 0, .slice none 0 0, .bool false, .bool false, .slice none 0 0, .string ⟨#[]⟩, .int .i64 0, .int .i64 0, .int .i64 0, .int .i64 0, .int .i64 0], errV 2])))
theorem txt_lt {c : List Nat} (h : ∀ b ∈ c, b < 256) : ∀ b ∈ txt c, b < 256 := by
  intro b hb
  rcases List.mem_append.1 hb with hb | hb
  · exact numB_lt _ b hb
  · exact h b hb
theorem putVw_lt {m : MkV} {l : LkV} (h1 : Good m.row) (h2 : ∀ b ∈ l.par, b < 256) : ∀ b ∈ putVw m l, b < 256 := by
  intro b hb
  simp only [putVw, putMk, putLk, flagB, List.mem_append, List.mem_singleton] at hb
  rcases hb with (rfl | rfl | hb) | (hb | hb | hb)
  · split <;> omega
  · split <;> omega
  · exact txt_lt (putM_lt h1) b hb
  · exact txt_lt h2 b hb
  · exact numB_lt _ b hb
  · exact numB_lt _ b hb
theorem named_lt {c : List Nat} (h : namedB c = true) : ∀ b ∈ c, b < 256 := by
  intro b hb
  unfold namedB at h
  simp only [Bool.and_eq_true, List.all_eq_true] at h
  have := h.2 b hb
  rcases sign_cases b with ⟨-, q⟩ | ⟨q, -⟩
  · omega
  · rw [q] at this; cases this
theorem putSn_lt {s : SnV} (h : SnG s) (hp : ∀ b ∈ s.lk.par, b < 256) : ∀ b ∈ putSn s, b < 256 := by
  intro b hb
  simp only [putSn, flagB, List.mem_append, List.mem_singleton, List.mem_flatMap] at hb
  rcases hb with hb | hb | hb | hb | rfl | hb | ⟨c, hc, hb⟩
  · exact numB_lt _ b hb
  · exact txt_lt (named_lt h.name) b hb
  · exact numB_lt _ b hb
  · exact putVw_lt h.row hp b hb
  · split <;> omega
  · exact numB_lt _ b hb
  · exact txt_lt (named_lt (h.ch c hc)) b hb
theorem hput_lt {h : HdV} (hB : h.B = true) (hp : ∀ b ∈ h.lk.par, b < 256) (hs : ∀ s ∈ h.sn, ∀ b ∈ s.lk.par, b < 256) : ∀ b ∈ h.put, b < 256 := by
  have hg := HdV.B_good hB
  intro b hb
  simp only [HdV.put, List.mem_append, List.mem_flatMap] at hb
  rcases hb with hb | hb | hb | hb | hb | ⟨s, h1, h2⟩ | hb | hb | hb | hb
  · exact numB_lt _ b hb
  · exact numB_lt _ b hb
  · exact numB_lt _ b hb
  · exact numB_lt _ b hb
  · exact numB_lt _ b hb
  · exact putSn_lt (hg.sn s h1) (hs s h1) b h2
  · exact putVw_lt hg.row hp b hb
  · exact numB_lt _ b hb
  · exact numB_lt _ b hb
  · exact numB_lt _ b hb
set_option maxHeartbeats 16000000 in
theorem htake_any (A : Option Addr) (n c : Nat) (b : List Nat) (w : World) (hb : Bytes w w.heap.size A n b) (hn : n ≤ 1000000)
    (HT : ∀ (w1 : World) (base : Nat) (F : List Nat) (p : Option Addr), Rd w1 base F p ⟨b, false⟩ → base ≤ w1.heap.size → Calls Try.prog 50 #[.pointer p] w1 (THeadTo w1 base F p ⟨b, false⟩))
    (hsm : ∀ a : HA, a.v = (⟨b, false⟩ : RD).hdv → a.Sm) : Calls Try.prog 17 #[.slice A n c] w (HTakeTo w b) := by
  obtain ⟨w0, hw0⟩ : ∃ w0, w0 = w.alloc (.cells #[.int .i64 0, .int .i64 0, .int .i64 0, .int .i64 0, .slice none 0 0, .bool false, .bool false, .slice none 0 0, .string ⟨#[]⟩, .int .i64 0, .int .i64 0, .int .i64 0, .int .i64 0, .int .i64 0] 36) := ⟨_, rfl⟩
  have hb0 : Below w.heap.size w w0 := by rw [hw0]; exact below_alloc w _
  have k0 : Blk w0 w.heap.size 36 #[.int .i64 0, .int .i64 0, .int .i64 0, .int .i64 0, .slice none 0 0, .bool false, .bool false, .slice none 0 0, .string ⟨#[]⟩, .int .i64 0, .int .i64 0, .int .i64 0, .int .i64 0, .int .i64 0] := by rw [hw0]; exact Blk.new w _ _
  have HW := Lib.hid hw0
  have HK := Lib.hid k0
  have HB0 := Lib.hid hb0
  have HBY := Lib.hid hb
  have HSM := Lib.hid hsm
  have HTT := Lib.hid HT
  have HNR := Lib.hid (newr_any A n c b w0 w0.heap.size (by omega) ((hb.since hb0).more hb0.size))
  have hz := head_zero
  obtain ⟨s, hs⟩ : ∃ s : RD, s = ⟨b, false⟩ := ⟨_, rfl⟩
  have HS := Lib.hid hs
  have hl0 := hb0.size
  have hl1 := k0.lt
  clear hw0 k0 hb0 hb hsm HT hs
  go_enter Try.func17, Try.ntmps17
  go_upto_region 1 with (fail)
  rw [← HW.out]
  clear HW
  go_wp2_with fail
  refine HNR.out.mono ?_
  rintro e w1 ⟨g, F, rfl, hr, b1⟩
  have HR1 := Lib.hid (And.intro hr b1)
  have HTC := Lib.hid (HTT.out w1 w0.heap.size F (some ⟨g, 0, none⟩) hr b1.size)
  clear hr b1 HNR HTT
  go_wp2_with fail
  refine HTC.out.mono ?_
  rintro e w2 ⟨a, F2, rfl, hav, hvw, hsn, hown, hfar, hrd, o, f⟩
  have hB12 : Below w0.heap.size w1 w2 := o.below HR1.out.1.over HR1.out.2.size
  have hB02 : Below w0.heap.size w0 w2 := HR1.out.2.trans hB12
  have hN : a.N w2 w1.heap.size F2 := by
    have q := hdv_i64 (⟨b, false⟩ : RD)
    rw [← hav] at q
    exact ⟨hvw, hsn, hown, q.1, q.2.1, q.2.2.1, q.2.2.2.1, q.2.2.2.2.1, q.2.2.2.2.2⟩
  obtain ⟨w3, hw3⟩ : ∃ w3, w3 = w2.alloc (.cells a.cs 36) := ⟨_, rfl⟩
  obtain ⟨g4, hg4⟩ : ∃ g4, g4 = w2.heap.size := ⟨_, rfl⟩
  have hb3 : Below w2.heap.size w2 w3 := by rw [hw3]; exact below_alloc w2 _
  have hN3 := (hN.below hb3).alone
  have k4 : Blk w3 g4 36 a.cs := by rw [hw3, hg4]; exact Blk.new w2 _ _
  have HP := Lib.hid (hput_any (w := w3) a hN3.R (HSM.out a hav))
  have HA3 := Lib.hid (And.intro hav (And.intro hN3 k4))
  have HB3 : Hid (Below w0.heap.size w0 w3) := Lib.hid (hB02.trans (hb3.mono hB02.size))
  have HG4 : Hid (w0.heap.size ≤ g4 ∧ w1.heap.size ≤ w2.heap.size ∧ w0.heap.size ≤ w1.heap.size) := Lib.hid (by have := hB02.size; have := o.size; have := HR1.out.2.size; omega)
  have HW3 := Lib.hid (And.intro hw3 hg4)
  clear hav hvw hsn hown hfar hrd o f hB12 hB02 hN hb3 hN3 k4 hw3 hg4 HTC
  unfold HA.cs at *
  go_upto_region 2 with (fail)
  rw [← HW3.out.1, ← HW3.out.2]
  clear HW3
  have K4 := HA3.out.2.2
  go_wp2_with (have _h := K4; refine wpList_loadq rfl 36 (.tmp 4) rfl g4 [.int .i64 a.id, .int .i64 a.vw.size, .int .i64 a.obj, .int .i64 a.seq, .slice a.S a.sn.length a.cs', .bool a.vw.on, .bool a.vw.good, .slice a.vw.M a.vw.row.length a.vw.cm, .string (strOf a.vw.par), .int .i64 a.vw.ps, .int .i64 a.vw.ov, .int .i64 a.ow, .int .i64 a.it, .int .i64 a.tg] _ rfl K4 Try.underlying36 rfl (by kernel_rfl) ?_; clear _h K4)
  refine HP.out.mono ?_
  rintro e w5 ⟨b5, hcase⟩
  have HB5 : Hid (Below w0.heap.size w0 w5) := Lib.hid (HB3.out.trans (b5.mono HB3.out.size))
  have HA5 : Hid (a.v = (⟨b, false⟩ : RD).hdv ∧ a.N w5 w1.heap.size [] ∧ Blk w5 g4 36 #[.int .i64 a.id, .int .i64 a.vw.size, .int .i64 a.obj, .int .i64 a.seq, .slice a.S a.sn.length a.cs', .bool a.vw.on, .bool a.vw.good, .slice a.vw.M a.vw.row.length a.vw.cm, .string (strOf a.vw.par), .int .i64 a.vw.ps, .int .i64 a.vw.ov, .int .i64 a.ow, .int .i64 a.it, .int .i64 a.tg]) := Lib.hid ⟨HA3.out.1, HA3.out.2.1.below b5, HA3.out.2.2.of (b5.block _ HA3.out.2.2.lt)⟩
  have HK5 : Hid (Blk w5 w.heap.size 36 #[.int .i64 0, .int .i64 0, .int .i64 0, .int .i64 0, .slice none 0 0, .bool false, .bool false, .slice none 0 0, .string ⟨#[]⟩, .int .i64 0, .int .i64 0, .int .i64 0, .int .i64 0, .int .i64 0]) := Lib.hid (HK.out.of (HB5.out.block _ hl1))
  have HNE : Hid (w.heap.size ≠ g4) := Lib.hid (by have := HG4.out.1; omega)
  have HBT5 : Hid (Bytes w5 w5.heap.size A n b) := Lib.hid ((HBY.out.since (HB0.out.trans (HB5.out.mono HB0.out.size))).more (HB0.out.trans (HB5.out.mono HB0.out.size)).size)
  clear b5 HP HA3
  rcases hcase with ⟨hB, p, rfl, hp⟩ | ⟨hB, rfl⟩
  · obtain ⟨Ap, cp, rfl⟩ := own_form hp
    rw [HA5.out.1] at hB hp
    have hpb : ∀ x ∈ (⟨b, false⟩ : RD).hdv.put, x < 256 := by
      refine hput_lt hB ?_ ?_
      · have e : a.v.lk.par = (⟨b, false⟩ : RD).hdv.lk.par := by rw [HA5.out.1]
        rw [← e]; exact HA5.out.2.1.vw.par
      · intro s hs
        rw [← HA5.out.1] at hs
        obtain ⟨x, hx, rfl⟩ := List.mem_map.1 hs
        exact (HA5.out.2.1.sn x hx).vw.par
    have HEQ := Lib.hid (equal_any Ap A _ n cp c _ _ _ _ w5 (hp.bytes hpb) HBT5.out)
    have HBB := Lib.hid hB
    rw [HA5.out.1]
    clear hB hp hpb
    by_cases heq : (⟨b, false⟩ : RD).hdv.put = b
    · have he : ((⟨b, false⟩ : RD).hdv.put == b) = true := by simpa using heq
      rw [he] at HEQ
      have HTH : Hid (TakeH b) := Lib.hid ⟨HBB.out, heq⟩
      clear he heq
      have K4 := HA5.out.2.2
      have K2 := HK5.out
      go_wp2_with fail
      refine HEQ.out.mono ?_
      rintro e w6 ⟨rfl, rfl⟩
      go_wp2_with (first
        | (have _h := K4; refine wpList_loadq rfl 36 (.tmp 4) rfl g4 [.int .i64 a.id, .int .i64 a.vw.size, .int .i64 a.obj, .int .i64 a.seq, .slice a.S a.sn.length a.cs', .bool a.vw.on, .bool a.vw.good, .slice a.vw.M a.vw.row.length a.vw.cm, .string (strOf a.vw.par), .int .i64 a.vw.ps, .int .i64 a.vw.ov, .int .i64 a.ow, .int .i64 a.it, .int .i64 a.tg] _ rfl K4 Try.underlying36 rfl (by kernel_rfl) ?_; clear _h K4)
        | (have _h := K2; refine wpList_storeq rfl 36 (.tmp 2) (.tmp 25) rfl w.heap.size _ [.int .i64 a.id, .int .i64 a.vw.size, .int .i64 a.obj, .int .i64 a.seq, .slice a.S a.sn.length a.cs', .bool a.vw.on, .bool a.vw.good, .slice a.vw.M a.vw.row.length a.vw.cm, .string (strOf a.vw.par), .int .i64 a.vw.ps, .int .i64 a.vw.ov, .int .i64 a.ow, .int .i64 a.it, .int .i64 a.tg] rfl rfl K2 (by simp) (by kernel_rfl) (one14 _ _ _ _ _ _ _ _ _ _ _ _ _ _ _ _ _ _) ?_; clear _h K2; intro w9 K9 o9 s9))
      refine bodyPost_ret (results_cell_tmp9 rfl _ _ w.heap.size 36 _ (0, 0) _ _ rfl rfl K9 Try.underlying36 rfl (by kernel_rfl)) rfl ?_
      refine ⟨(HB0.out.trans (HB5.out.mono HB0.out.size)).trans (o9.below (fun x hx => by simp at hx; omega) ((HB0.out.trans (HB5.out.mono HB0.out.size)).size)), .inl ⟨HTH.out, a, rfl, HA5.out.1, ?_⟩⟩
      exact (HA5.out.2.1.stay HK5.out o9).weaken (by have := HG4.out; omega)
    · have he : ((⟨b, false⟩ : RD).hdv.put == b) = false := by simpa using heq
      rw [he] at HEQ
      have HTH : Hid (¬ TakeH b) := Lib.hid fun h => heq h.2
      clear he heq
      have K2 := HK5.out
      go_wp2_with fail
      refine HEQ.out.mono ?_
      rintro e w6 ⟨rfl, rfl⟩
      go_wp2_with (have _h := K2; refine wpList_storeq rfl 36 (.tmp 2) (.tmp 23) rfl w.heap.size _ [.int .i64 0, .int .i64 0, .int .i64 0, .int .i64 0, .slice none 0 0, .bool false, .bool false, .slice none 0 0, .string ⟨#[]⟩, .int .i64 0, .int .i64 0, .int .i64 0, .int .i64 0, .int .i64 0] rfl rfl K2 (by simp) (by kernel_rfl) (one14 _ _ _ _ _ _ _ _ _ _ _ _ _ _ _ _ _ _) ?_; clear _h K2; intro w9 K9 o9 s9)
      refine bodyPost_ret (results_cell_tmp9 rfl _ _ w.heap.size 36 _ (0, 0) _ _ rfl rfl K9 Try.underlying36 rfl (by kernel_rfl)) rfl ?_
      exact ⟨(HB0.out.trans (HB5.out.mono HB0.out.size)).trans (o9.below (fun x hx => by simp at hx; omega) ((HB0.out.trans (HB5.out.mono HB0.out.size)).size)), .inr ⟨HTH.out, rfl⟩⟩
  · rw [HA5.out.1] at hB
    have HTH : Hid (¬ TakeH b) := Lib.hid fun h => by have := h.1; rw [hB] at this; cases this
    have K2 := HK5.out
    simp only [errV]
    clear hB
    go_wp2_with (have _h := K2; refine wpList_storeq rfl 36 (.tmp 2) (.tmp 23) rfl w.heap.size _ [.int .i64 0, .int .i64 0, .int .i64 0, .int .i64 0, .slice none 0 0, .bool false, .bool false, .slice none 0 0, .string ⟨#[]⟩, .int .i64 0, .int .i64 0, .int .i64 0, .int .i64 0, .int .i64 0] rfl rfl K2 (by simp) (by kernel_rfl) (one14 _ _ _ _ _ _ _ _ _ _ _ _ _ _ _ _ _ _) ?_; clear _h K2; intro w9 K9 o9 s9)
    refine bodyPost_ret (results_cell_tmp9 rfl _ _ w.heap.size 36 _ (0, 0) _ _ rfl rfl K9 Try.underlying36 rfl (by kernel_rfl)) rfl ?_
    exact ⟨(HB0.out.trans (HB5.out.mono HB0.out.size)).trans (o9.below (fun x hx => by simp at hx; omega) ((HB0.out.trans (HB5.out.mono HB0.out.size)).size)), .inr ⟨HTH.out, rfl⟩⟩
end Go.Proofs.Ytgddenhnpjoabaa
