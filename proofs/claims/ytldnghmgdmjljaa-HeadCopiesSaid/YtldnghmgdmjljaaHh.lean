/-
  What is put of a view, a snapshot. Conditions: they read as they are said to ahead of the writer's making; the marks are such; the sizes.
-/
import Derived.Test.YtldnghmgdmjljaaHg
namespace Go.Proofs.Ytldnghmgdmjljaa
open Go.RowKit Go.BigFrame
set_option linter.unusedSimpArgs false
set_option linter.unusedVariables false
set_option maxRecDepth 100000
/-- the writer at g in wr; since wr0 only what is its own has turned; nothing below w1's end has -/
structure Wst (w1 wr0 wr : World) (F0 F : List Nat) (g : Nat) (L : List Nat) : Prop where
  wrt : Wr wr w1.heap.size F (some ⟨g, 0, none⟩) L
  bel : Below w1.heap.size w1 wr
  only : Only F0 wr0 wr
  fresh : Fresh wr0 F0 F
theorem Wst.then_ {w1 wr0 wr w2 : World} {F0 F : List Nat} {g : Nat} {L L' : List Nat} (h : Wst w1 wr0 wr F0 F g L) (ht : WTo wr w1.heap.size F (some ⟨g, 0, none⟩) L' w2) : ∃ F', Wst w1 wr0 w2 F0 F' g L' := by
  obtain ⟨F', h1, h2, h3⟩ := ht
  exact ⟨F', h1, h.bel.trans (h2.below h.wrt.over h.bel.size), h.only.trans h2 h.fresh, h.fresh.trans h3 h.only.size⟩
theorem Wst.next {w1 wr0 wr w2 : World} {F0 F : List Nat} {g : Nat} {L : List Nat} (h : Wst w1 wr0 wr F0 F g L) (hb : Below wr.heap.size wr w2) : Wst w1 wr0 w2 F0 F g L :=
  ⟨h.wrt.below hb, h.bel.trans (hb.mono h.bel.size), h.only.trans (Only.of_below hb F) h.fresh, h.fresh⟩
theorem Wst.keep {w1 wr0 wr : World} {F0 F : List Nat} {g k : Nat} {L : List Nat} {t : TypeId} {cs : Array Value} (h : Wst w1 wr0 wr F0 F g L) (hk : Blk wr0 k t cs) (hn : k ∉ F0) : Blk wr k t cs := hk.of (h.only.block k hk.lt hn)
theorem Wst.start {w1 wr : World} {F : List Nat} {g : Nat} {L : List Nat} (h : Wr wr w1.heap.size F (some ⟨g, 0, none⟩) L) (hb : Below w1.heap.size w1 wr) : Wst w1 wr wr F F g L := ⟨h, hb, Only.refl _ _, Fresh.refl _ _⟩
/-- a call has put these bytes more -/
def PutTo (w1 wr : World) (F : List Nat) (g : Nat) (L : List Nat) (w' : World) : Prop := ∃ F', Wst w1 wr w' F F' g L
theorem Wst.then2 {w1 wr0 wr w2 : World} {F0 F : List Nat} {g : Nat} {L L' : List Nat} (h : Wst w1 wr0 wr F0 F g L) (ht : PutTo w1 wr F g L' w2) : ∃ F', Wst w1 wr0 w2 F0 F' g L' := by
  obtain ⟨F', h2⟩ := ht
  exact ⟨F', h2.wrt, h2.bel, h.only.trans h2.only h.fresh, h.fresh.trans h2.fresh h.only.size⟩
theorem Strs.below {w w' : World} {B n : Nat} {A : Option Addr} {l : List (List Nat)} (h : Strs w B A n l) (hb : Below B w w') : Strs w' B A n l := ⟨h.1.below hb, h.2⟩
theorem far_reads {w1 w : World} {F : List Nat} (ho : Over w1.heap.size F) {n size : Nat} {A : Option Addr} {xs : List Value} (hr : Reads w1 w1.heap.size size A n xs) : ∀ a, A = some a → 0 < n → a.block ∉ F := by
  intro a ha hn hm
  obtain ⟨ad, e, hb, _⟩ := hr.2 hn
  rw [ha] at e
  injection e with e
  subst e
  have := ho a.block hm
  omega
theorem plus_some (g : Nat) (a b : List Nat) : plus (some ⟨g, 0, none⟩) a b = a ++ b := rfl
theorem run_index_n {P : Program} (n : Nat) (t e : TypeId) (cs : List Value) (j : Nat) (v : Value) (h : P.underlying t = some (.array n e)) (hi : (P.info? e).map (·.size) = some 1) (ha : ∀ w, (isAgg e).run P w = .ok false w) (hj : j < n) (hv : cs[j]? = some v) (w : World) :
    (Instr.index t (.agg cs.toArray) (.int .i64 j)).run P w = .ok v w := by
  cases hq : P.info? e with
  | none => simp [hq] at hi
  | some i0 =>
    have hi : i0.size = 1 := by simpa [hq] using hi
    have h6 : (j : Int) < (n : Int) := by omega
    simp [Instr.index, run_underlying h, asIntOf, h6, hj, ha, Result.andThen, sizeOf, typeInfo, hq, hi, hv, go_sem]
theorem i64_at {NS : List Int} {k : Nat} {x : Int} (h : NS[k]? = some x) : (NS.map (Value.int .i64))[k]? = some (.int .i64 x) := by rw [List.getElem?_map, h]; rfl
theorem take_snocI {α : Type} {l : List α} {k : Nat} {x : α} (h : l[k]? = some x) : l.take (k + 1) = l.take k ++ [x] := by rw [List.take_add_one, h]; rfl
theorem flat_numB_len : ∀ l : List Int, (l.flatMap numB).length = 8 * l.length
  | [] => rfl
  | x :: l => by rw [List.flatMap_cons, List.length_append, numB_len, flat_numB_len l, List.length_cons]; omega
theorem flat_txt_len : ∀ l : List (List Nat), (∀ c ∈ l, c.length ≤ 20) → (l.flatMap txt).length ≤ 28 * l.length
  | [], _ => by simp
  | c :: l, h => by
    have ih := flat_txt_len l fun x hx => h x (List.mem_cons_of_mem _ hx)
    have := h c (by simp)
    rw [List.flatMap_cons, List.length_append, txt_len, List.length_cons]
    omega
theorem putMk_len {m : MkV} (h : Good m.row) : (putMk m).length ≤ 80 := by
  have := putM_small h
  simp only [putMk, flagB, txt, List.length_append, List.length_singleton, numB_len]
  omega
set_option maxHeartbeats 8000000 in
theorem vput_any {w1 w : World} {F : List Nat} {g : Nat} {L : List Nat} (v : VA) (hv : v.R w1) (hS : v.Sm) (hg : Good v.row) (h : Wr w w1.heap.size F (some ⟨g, 0, none⟩) L) (hb : Below w1.heap.size w1 w) (hl : L.length ≤ 5000000) :
    Calls Try.prog 32 #[.agg v.cs, .pointer (some ⟨g, 0, none⟩)] w fun e w' => e = .returned (.tuple #[]) ∧ PutTo w1 w F g (L ++ putVw v.mk' v.lk) w' := by
  obtain ⟨w0, hw0⟩ : ∃ w0, w0 = w.alloc (.cells v.cs 75) := ⟨_, rfl⟩
  have hb0 : Below w.heap.size w w0 := by rw [hw0]; exact below_alloc w _
  have K0 : Blk w0 w.heap.size 75 #[.int .i64 v.size, .bool v.on, .bool v.good, .slice v.M v.row.length v.cm, .string (strOf v.par), .int .i64 v.ps, .int .i64 v.ov] := by rw [hw0]; exact Blk.new w _ _
  have hgF : w.heap.size ∉ F := fun hm => by have := h.under _ hm; omega
  have HS0 := Lib.hid ((Wst.start h hb).next hb0)
  have HK : Hid (∀ {wr F' L'}, Wst w1 w wr F F' g L' → Below w0.heap.size w0 wr ∨ True → True) := Lib.hid fun _ _ => trivial
  have HW0 : Hid (Wst w1 w0 w0 F F g L) := Lib.hid (Wst.start (h.below hb0) (hb.trans (hb0.mono hb.size)))
  have HX : Hid (∀ {wr F' L'}, Wst w1 w0 wr F F' g L' → Blk wr w.heap.size 75 #[.int .i64 v.size, .bool v.on, .bool v.good, .slice v.M v.row.length v.cm, .string (strOf v.par), .int .i64 v.ps, .int .i64 v.ov]) := Lib.hid fun hw => hw.keep K0 hgF
  have HV := Lib.hid hv
  have HG := Lib.hid hg
  have HSM := Lib.hid hS
  have HW := Lib.hid hw0
  have HB0 := Lib.hid hb0
  have x1 : w0.cell? ⟨w.heap.size, 1, none⟩ = some (.bool v.on) := K0.cell 1
  have hpl := hS.par
  clear hv hS hg h hb hw0 hb0 K0 hgF HK HS0
  unfold VA.cs at *
  go_enter Try.func32, Try.ntmps32
  go_upto_region 1 with (fail)
  rw [← HW.out]
  clear HW
  go_wp2_with fail
  refine (wflag_any w0 w1.heap.size _ _ _ v.on HW0.out.wrt (by omega) HW0.out.bel.size).mono ?_
  rintro e w2 ⟨rfl, ht⟩
  obtain ⟨F2, h2⟩ := HW0.out.then_ ht
  rw [plus_some] at h2
  have H2 := Lib.hid h2
  have x2 : w2.cell? ⟨w.heap.size, 2, none⟩ = some (.bool v.good) := (HX.out h2).cell 2
  clear ht h2 x1
  go_wp2_with fail
  refine (wflag_any w2 w1.heap.size _ _ _ v.good H2.out.wrt (by simp; omega) H2.out.bel.size).mono ?_
  rintro e w3 ⟨rfl, ht⟩
  obtain ⟨F3, h3⟩ := H2.out.then_ ht
  rw [plus_some] at h3
  have H3 := Lib.hid h3
  have x3 : w3.cell? ⟨w.heap.size, 3, none⟩ = some (.slice v.M v.row.length v.cm) := (HX.out h3).cell 3
  have HP := Lib.hid (put_ok v.M v.row.length v.cm v.row w3 ((HV.out.row.below h3.bel).more h3.bel.size) HG.out)
  clear ht h3 x2
  go_wp2_with fail
  refine HP.out.mono ?_
  rintro e w4 ⟨rfl, kp, b4⟩
  have hpl2 : (putM v.row).length = 2 + (v.row.length + 3) / 4 := putM_len _
  have hsm := putM_small HG.out
  have HPB : Hid (Bytes w4 w4.heap.size (some ⟨w3.heap.size, 0, none⟩) (2 + (v.row.length + 3) / 4) (putM v.row)) := Lib.hid (by
    refine ⟨⟨by rw [u8s_length]; omega, fun _ => ⟨_, rfl, kp.lt, fun j u hu => ?_⟩⟩, putM_lt HG.out⟩
    rw [add_zero_off, kp.cell]
    simpa using hu)
  have H4 := Lib.hid (H3.out.next b4)
  have HF3 : Hid (w3.heap.size ∉ F3) := Lib.hid fun hm => by have := H3.out.wrt.under _ hm; omega
  clear kp b4 HP x3
  go_wp2_with fail
  refine (wbytes_any w4 w1.heap.size _ _ _ (putM v.row) _ _ _ _ H4.out.wrt HPB.out (fun a ha _ => by injection ha with ha; subst ha; exact HF3.out) (by simp; omega) H4.out.bel.size).mono ?_
  rintro e w5 ⟨rfl, ht⟩
  obtain ⟨F5, h5⟩ := H4.out.then_ ht
  rw [plus_some] at h5
  have H5 := Lib.hid h5
  have x4 : w5.cell? ⟨w.heap.size, 4, none⟩ = some (.string (strOf v.par)) := (HX.out h5).cell 4
  clear ht h5 HPB HF3
  go_wp2_with fail
  refine (wtext_any w5 w1.heap.size _ _ _ v.par H5.out.wrt HV.out.par (by simp [numB_len]; omega) H5.out.bel.size).mono ?_
  rintro e w6 ⟨rfl, ht⟩
  obtain ⟨F6, h6⟩ := H5.out.then_ ht
  rw [plus_some] at h6
  have x5 : w6.cell? ⟨w.heap.size, 5, none⟩ = some (.int .i64 v.ps) := (HX.out h6).cell 5
  have x6 : w6.cell? ⟨w.heap.size, 6, none⟩ = some (.int .i64 v.ov) := (HX.out h6).cell 6
  obtain ⟨M, hM⟩ : ∃ M, M = L ++ [if v.on = true then 1 else 0] ++ [if v.good = true then 1 else 0] ++ (numB ↑(2 + (v.row.length + 3) / 4) ++ putM v.row) ++ (numB ↑v.par.length ++ v.par) := ⟨_, rfl⟩
  rw [← hM] at h6
  have hml : M.length ≤ 7000000 := by rw [hM]; simp [numB_len]; omega
  have H6 := Lib.hid h6
  have HM := Lib.hid hM
  clear ht h6 hM
  go_wp2
  clear x5 x6
  go_loopw [37] (fun i wr => ∃ (k : Nat) (F' : List Nat), k ≤ 2 ∧ i = .int .i64 k ∧ Wst w1 w0 wr F F' g (M ++ (([v.ps, v.ov] : List Int).take k).flatMap numB)) (fun i _ => 2 - (intOf i).toNat)
  case atStart => exact ⟨0, F6, by omega, rfl, by simpa using H6.out⟩
  case round =>
    obtain ⟨k, F', hk, rfl, hst⟩ := hrel
    have HST := Lib.hid hst
    clear hst
    have hwk : IntKind.i64.wrap ((k : Int) + 1) = (k : Int) + 1 := by rw [IntKind.wrap_i64]; omega
    have htl : (([v.ps, v.ov] : List Int).take k).length ≤ 2 := by rw [List.length_take]; simp; omega
    have hfl := flat_numB_len (([v.ps, v.ov] : List Int).take k)
    have HFL : Hid ((M ++ (([v.ps, v.ov] : List Int).take k).flatMap numB).length ≤ 8500000) := Lib.hid (by rw [List.length_append, hfl]; first | omega | (simp only [List.length_nil]; omega))
    clear hfl htl
    by_cases hlt : k < 2
    · obtain ⟨x, hx⟩ : ∃ x, ([v.ps, v.ov] : List Int)[k]? = some x := ⟨_, List.getElem?_eq_getElem (by simpa using hlt)⟩
      have hix := run_index_n (P := Try.prog) 2 117 3 (([v.ps, v.ov] : List Int).map (Value.int .i64)) k (.int .i64 x) Try.underlying117 (by kernel_rfl) (fun w => by kernel_rfl) hlt (i64_at hx) wr
      simp only [List.map_cons, List.map_nil] at hix
      have HX2 := Lib.hid (take_snocI hx)
      clear hx
      go_wp2_with fail
      refine (wnum_any wr w1.heap.size _ _ _ x HST.out.wrt (by have := HFL.out; omega) HST.out.bel.size).mono ?_
      rintro e w7 ⟨rfl, ht⟩
      obtain ⟨F7, h7⟩ := HST.out.then_ ht
      rw [plus_some, List.append_assoc] at h7
      have H7 := Lib.hid h7
      clear ht h7
      go_wp2
      go_roundw
      case rel => exact ⟨k + 1, F7, by omega, by go_num, by rw [HX2.out, List.flatMap_append]; simpa using H7.out⟩
      case measure => simp [intOf]; omega
    · have hkn : k = 2 := by omega
      have d9 : decide ((k : Int) < 2) = false := decide_eq_false (by omega)
      have hq0 := HST.out
      have hf0 := HFL.out
      rw [hkn] at hq0 hf0
      have HQ0 := Lib.hid hq0
      have HF0 := Lib.hid hf0
      clear hq0 hf0 hkn HST HFL
      go_wp2
      refine bodyPost_end (results_none rfl _ _ _) rfl ?_
      have q := HQ0.out
      have e : L ++ putVw v.mk' v.lk = M ++ (([v.ps, v.ov] : List Int).take 2).flatMap numB := by
        have e3 : ([v.ps, v.ov] : List Int).take 2 = [v.ps, v.ov] := rfl
        rw [HM.out, e3]
        simp only [putVw, putMk, putLk, txt, flagB, VA.mk', VA.lk, hpl2, List.append_assoc, List.flatMap_cons, List.flatMap_nil, List.append_nil]
        rfl
      rw [e]
      exact ⟨rfl, F', q.wrt, q.bel, (Only.of_below HB0.out F).trans q.only (Fresh.refl _ _), fun x hx => (q.fresh x hx).imp id (Nat.le_trans HB0.out.size)⟩
set_option maxHeartbeats 8000000 in
theorem sput_any {w1 w : World} {F : List Nat} {g : Nat} {L : List Nat} (s : SA) (hs : s.R w1) (hS : s.Sm) (hg : Good s.vw.row) (hsz : s.ch.length ≤ 10000) (hcl : ∀ c ∈ s.ch, c.length ≤ 20) (h : Wr w w1.heap.size F (some ⟨g, 0, none⟩) L) (hb : Below w1.heap.size w1 w) (hl : L.length ≤ 4500000) (hnl : s.name.length ≤ 20) (hpl : s.vw.par.length ≤ 20) :
    Calls Try.prog 30 #[.agg s.cells.toArray, .pointer (some ⟨g, 0, none⟩)] w fun e w' => e = .returned (.tuple #[]) ∧ PutTo w1 w F g (L ++ putSn s.v) w' := by
  obtain ⟨w0, hw0⟩ : ∃ w0, w0 = w.alloc (.cells s.cells.toArray 62) := ⟨_, rfl⟩
  have hb0 : Below w.heap.size w w0 := by rw [hw0]; exact below_alloc w _
  have K0 : Blk w0 w.heap.size 62 #[.int .i64 s.num, .int .i64 s.vw.size, .string (strOf s.name), .bool s.vw.on, .bool s.vw.good, .bool s.prot, .slice s.vw.M s.vw.row.length s.vw.cm, .string (strOf s.vw.par), .int .i64 s.vw.ps, .int .i64 s.vw.ov, .slice s.C s.ch.length s.cc] := by rw [hw0]; exact Blk.new w _ _
  have hgF : w.heap.size ∉ F := fun hm => by have := h.under _ hm; omega
  have HW0 : Hid (Wst w1 w0 w0 F F g L) := Lib.hid (Wst.start (h.below hb0) (hb.trans (hb0.mono hb.size)))
  have HX : Hid (∀ {wr F' L'}, Wst w1 w0 wr F F' g L' → Blk wr w.heap.size 62 #[.int .i64 s.num, .int .i64 s.vw.size, .string (strOf s.name), .bool s.vw.on, .bool s.vw.good, .bool s.prot, .slice s.vw.M s.vw.row.length s.vw.cm, .string (strOf s.vw.par), .int .i64 s.vw.ps, .int .i64 s.vw.ov, .slice s.C s.ch.length s.cc]) := Lib.hid fun hw => hw.keep K0 hgF
  have HV := Lib.hid hs
  have HG := Lib.hid hg
  have HSM := Lib.hid hS
  have HW := Lib.hid hw0
  have HB0 := Lib.hid hb0
  have HCL := Lib.hid hcl
  have x0 : w0.cell? ⟨w.heap.size, 0, none⟩ = some (.int .i64 s.num) := K0.cell 0
  have hrl := hg.1
  clear hs hS hg h hb hw0 hb0 K0 hgF hcl
  unfold SA.cells at *
  go_enter Try.func30, Try.ntmps30
  go_upto_region 1 with (fail)
  rw [← HW.out]
  clear HW
  go_wp2_with fail
  refine (wnum_any w0 w1.heap.size _ _ _ s.num HW0.out.wrt (by omega) HW0.out.bel.size).mono ?_
  rintro e w2 ⟨rfl, ht⟩
  obtain ⟨F2, h2⟩ := HW0.out.then_ ht
  rw [plus_some] at h2
  have H2 := Lib.hid h2
  have x2 : w2.cell? ⟨w.heap.size, 2, none⟩ = some (.string (strOf s.name)) := (HX.out h2).cell 2
  clear ht h2 x0
  go_wp2_with fail
  refine (wtext_any w2 w1.heap.size _ _ _ s.name H2.out.wrt HV.out.name (by simp [numB_len]; omega) H2.out.bel.size).mono ?_
  rintro e w3 ⟨rfl, ht⟩
  obtain ⟨F3, h3⟩ := H2.out.then_ ht
  rw [plus_some] at h3
  have H3 := Lib.hid h3
  have x1 : w3.cell? ⟨w.heap.size, 1, none⟩ = some (.int .i64 s.vw.size) := (HX.out h3).cell 1
  clear ht h3 x2
  go_wp2_with fail
  refine (wnum_any w3 w1.heap.size _ _ _ s.vw.size H3.out.wrt (by simp [numB_len]; omega) H3.out.bel.size).mono ?_
  rintro e w4 ⟨rfl, ht⟩
  obtain ⟨F4, h4⟩ := H3.out.then_ ht
  rw [plus_some] at h4
  obtain ⟨M, hM⟩ : ∃ M, M = L ++ numB s.num ++ (numB ↑s.name.length ++ s.name) ++ numB s.vw.size := ⟨_, rfl⟩
  rw [← hM] at h4
  have hml : M.length ≤ 4500100 := by rw [hM]; simp [numB_len]; omega
  have HM := Lib.hid hM
  have H4 := Lib.hid h4
  have K4 := HX.out h4
  have y0 : w4.cell? ⟨w.heap.size, 0, none⟩ = some (.int .i64 s.num) := K4.cell 0
  have y1 : w4.cell? ⟨w.heap.size, 1, none⟩ = some (.int .i64 s.vw.size) := K4.cell 1
  have y2 : w4.cell? ⟨w.heap.size, 2, none⟩ = some (.string (strOf s.name)) := K4.cell 2
  have y3 : w4.cell? ⟨w.heap.size, 3, none⟩ = some (.bool s.vw.on) := K4.cell 3
  have y4 : w4.cell? ⟨w.heap.size, 4, none⟩ = some (.bool s.vw.good) := K4.cell 4
  have y5 : w4.cell? ⟨w.heap.size, 5, none⟩ = some (.bool s.prot) := K4.cell 5
  have y6 : w4.cell? ⟨w.heap.size, 6, none⟩ = some (.slice s.vw.M s.vw.row.length s.vw.cm) := K4.cell 6
  have y7 : w4.cell? ⟨w.heap.size, 7, none⟩ = some (.string (strOf s.vw.par)) := K4.cell 7
  have y8 : w4.cell? ⟨w.heap.size, 8, none⟩ = some (.int .i64 s.vw.ps) := K4.cell 8
  have y9 : w4.cell? ⟨w.heap.size, 9, none⟩ = some (.int .i64 s.vw.ov) := K4.cell 9
  have y10 : w4.cell? ⟨w.heap.size, 10, none⟩ = some (.slice s.C s.ch.length s.cc) := K4.cell 10
  have HVW := Lib.hid (sview_any s w4)
  unfold SA.cells at HVW
  clear ht h4 hM K4 x1
  go_wp2_with fail
  refine HVW.out.mono ?_
  rintro e w5 ⟨rfl, b5⟩
  have H5 := Lib.hid (H4.out.next b5)
  clear b5 HVW y0 y1 y2 y3 y4 y5 y6 y7 y8 y9 y10
  go_wp2_with fail
  refine (vput_any s.vw HV.out.vw HSM.out.vw HG.out H5.out.wrt H5.out.bel (by omega)).mono ?_
  rintro e w6 ⟨rfl, ht⟩
  obtain ⟨F6, h6⟩ := H5.out.then2 ht
  have H6 := Lib.hid h6
  have x5 : w6.cell? ⟨w.heap.size, 5, none⟩ = some (.bool s.prot) := (HX.out h6).cell 5
  have HPV : Hid ((putVw s.vw.mk' s.vw.lk).length ≤ 200) := Lib.hid (by
    have := putMk_len (m := s.vw.mk') HG.out
    have h1 : (putLk s.vw.lk).length = 8 + s.vw.par.length + 16 := by simp only [putLk, txt, List.length_append, numB_len]; rfl
    rw [putVw, List.length_append]
    omega)
  clear ht h6
  go_wp2_with fail
  refine (wflag_any w6 w1.heap.size _ _ _ s.prot H6.out.wrt (by have := HPV.out; rw [List.length_append]; omega) H6.out.bel.size).mono ?_
  rintro e w7 ⟨rfl, ht⟩
  obtain ⟨F7, h7⟩ := H6.out.then_ ht
  rw [plus_some] at h7
  have H7 := Lib.hid h7
  have x10 : w7.cell? ⟨w.heap.size, 10, none⟩ = some (.slice s.C s.ch.length s.cc) := (HX.out h7).cell 10
  clear ht h7 x5
  go_wp2_with fail
  refine (wnum_any w7 w1.heap.size _ _ _ s.ch.length H7.out.wrt (by have := HPV.out; simp; omega) H7.out.bel.size).mono ?_
  rintro e w8 ⟨rfl, ht⟩
  obtain ⟨F8, h8⟩ := H7.out.then_ ht
  rw [plus_some] at h8
  obtain ⟨N, hN⟩ : ∃ N, N = M ++ putVw s.vw.mk' s.vw.lk ++ [if s.prot = true then 1 else 0] ++ numB s.ch.length := ⟨_, rfl⟩
  rw [← hN] at h8
  have hnl2 : N.length ≤ 4500400 := by have := HPV.out; rw [hN]; simp [numB_len]; omega
  have HN := Lib.hid hN
  have H8 := Lib.hid h8
  have x10 : w8.cell? ⟨w.heap.size, 10, none⟩ = some (.slice s.C s.ch.length s.cc) := (HX.out h8).cell 10
  clear ht h8 hN
  go_wp2
  clear x10
  go_loopw [34] (fun i wr => ∃ (k : Nat) (F' : List Nat), k ≤ s.ch.length ∧ i = .int .i64 k ∧ Wst w1 w0 wr F F' g (N ++ (s.ch.take k).flatMap txt)) (fun i _ => s.ch.length - (intOf i).toNat)
  case atStart => exact ⟨0, F8, by omega, rfl, by simpa using H8.out⟩
  case round =>
    obtain ⟨k, F', hk, rfl, hst⟩ := hrel
    have HST := Lib.hid hst
    have hwk : IntKind.i64.wrap ((k : Int) + 1) = (k : Int) + 1 := by rw [IntKind.wrap_i64]; omega
    clear hst
    by_cases hlt : k < s.ch.length
    · obtain ⟨ad, c, had, hck, hc2, hcell⟩ := ((HV.out.ch.below HST.out.bel)).at_ hlt
      have hc20 := HCL.out c (List.mem_of_getElem? hck)
      have HX2 := Lib.hid (take_snocI hck)
      have HC2 := Lib.hid hc2
      have HLN : Hid ((N ++ (s.ch.take k).flatMap txt).length ≤ 4900000) := Lib.hid (by
        have := flat_txt_len (s.ch.take k) (fun c hc => HCL.out c (List.mem_of_mem_take hc))
        rw [List.length_take] at this
        rw [List.length_append]
        omega)
      generalize s.C = sC at *
      subst had
      clear hck hc2
      go_wp2_with fail
      refine (wtext_any wr w1.heap.size _ _ _ c HST.out.wrt HC2.out (by have := HLN.out; omega) HST.out.bel.size).mono ?_
      rintro e w9 ⟨rfl, ht⟩
      obtain ⟨F9, h9⟩ := HST.out.then_ ht
      rw [plus_some, List.append_assoc] at h9
      have H9 := Lib.hid h9
      clear ht h9
      go_wp2
      go_roundw
      case rel => exact ⟨k + 1, F9, by omega, by go_num, by rw [HX2.out, List.flatMap_append]; simpa [txt] using H9.out⟩
      case measure => simp [intOf]; omega
    · obtain rfl : k = s.ch.length := by omega
      go_wp2
      refine bodyPost_end (results_none rfl _ _ _) rfl ?_
      have q := HST.out
      rw [List.take_length] at q
      have e : L ++ putSn s.v = N ++ s.ch.flatMap txt := by
        rw [HN.out, HM.out]
        simp only [putSn, txt, flagB, SA.v, List.append_assoc]
        rfl
      rw [e]
      exact ⟨rfl, F', q.wrt, q.bel, (Only.of_below HB0.out F).trans q.only (Fresh.refl _ _), fun x hx => (q.fresh x hx).imp id (Nat.le_trans HB0.out.size)⟩
end Go.Proofs.Ytldnghmgdmjljaa
