/-
  Put of heads. Conditions: the head reads as it is said to, and is small.
-/
import Derived.Test.YtldnghmgdmjljaaHh
namespace Go.Proofs.Ytldnghmgdmjljaa
open Go.RowKit Go.BigFrame
set_option linter.unusedSimpArgs false
set_option linter.unusedVariables false
set_option maxRecDepth 100000
theorem Wr.made9 (w : World) : Wr (w.alloc (.cells #[.slice none 0 0] 70)) w.heap.size [w.heap.size] (some ⟨w.heap.size, 0, none⟩) [] :=
  .inr ⟨w.heap.size, rfl, .slice none 0 0, rfl, Blk.new w _ _, Own.nil _ _, Nat.le_refl _, fun b hb => by cases hb⟩
theorem writer_zero9 (w : World) : (zeroValue 70).run Try.prog w = .ok (.agg #[.slice none 0 0]) w := by kernel_rfl
theorem viewB_row {size obj : Int} {m : MkV} {l : LkV} (h : viewB size obj m l = true) : Good m.row ∧ l.par.length ≤ 20 := by
  unfold viewB at h
  simp only [Bool.and_eq_true] at h
  obtain ⟨⟨_, hm⟩, hl⟩ := h
  constructor
  · unfold MkV.B at hm
    split at hm
    · simp only [Bool.and_eq_true, decide_eq_true_eq] at hm; exact hm.1
    · simp only [Bool.and_eq_true, List.isEmpty_iff] at hm; rw [hm.1]; exact ⟨by simp, by simp⟩
  · unfold LkV.B at hl
    split at hl
    · rename_i he; rw [List.isEmpty_iff.1 he]; simp
    · simp only [Bool.and_eq_true] at hl; exact (named_len hl.1.1.1).2
theorem upB_named : ∀ (l : List (List Nat)) (last : List Nat), upB last l = true → ∀ c ∈ l, namedB c = true
  | [], _, _, c, hc => by cases hc
  | x :: l, last, h, c, hc => by
    rw [upB, Bool.and_eq_true, Bool.and_eq_true] at h
    rcases List.mem_cons.1 hc with rfl | hc
    · exact h.1.1
    · exact upB_named l x h.2 c hc
structure SnG (s : SnV) : Prop where
  row : Good s.mx.row
  par : s.lk.par.length ≤ 20
  name : namedB s.name = true
  ch : ∀ c ∈ s.ch, namedB c = true
theorem snapsB_good (obj seq : Int) : ∀ (l : List SnV) (last : Int), snapsB obj seq last l = true → ∀ s ∈ l, SnG s
  | [], _, _, s, hs => by cases hs
  | x :: l, last, h, s, hs => by
    rw [snapsB, Bool.and_eq_true] at h
    rcases List.mem_cons.1 hs with rfl | hs
    · have h1 := h.1
      unfold snapB at h1
      simp only [Bool.and_eq_true] at h1
      obtain ⟨⟨⟨_, hn⟩, hv⟩, hc⟩ := h1
      have h2 := viewB_row hv
      refine ⟨h2.1, h2.2, hn, ?_⟩
      unfold SnV.chB at hc
      rw [Bool.and_eq_true] at hc
      exact upB_named _ _ hc.1
    · exact snapsB_good obj seq l x.num h.2 s hs
structure HdG (h : HdV) : Prop where
  row : Good h.mx.row
  par : h.lk.par.length ≤ 20
  cn : h.sn.length ≤ 16
  sn : ∀ s ∈ h.sn, SnG s
theorem HdV.B_good {h : HdV} (hB : h.B = true) : HdG h := by
  unfold HdV.B at hB
  simp only [Bool.and_eq_true] at hB
  obtain ⟨⟨⟨⟨⟨_, hv⟩, hs⟩, _⟩, _⟩, _⟩ := hB
  have h2 := viewB_row hv
  unfold HdV.snB at hs
  simp only [Bool.and_eq_true, decide_eq_true_eq] at hs
  exact ⟨h2.1, h2.2, hs.1.1, snapsB_good _ _ _ _ hs.1.2⟩
theorem putSn_len {s : SnV} (h : SnG s) (hc : s.ch.length ≤ 10000) : (putSn s).length ≤ 280400 := by
  have h1 := putMk_len h.row
  have h2 : (putLk s.lk).length = 8 + s.lk.par.length + 16 := by simp only [putLk, txt, List.length_append, numB_len]
  have h3 := named_len h.name
  have h4 := flat_txt_len s.ch (fun c hc => (named_len (h.ch c hc)).2)
  have h5 := h.par
  simp only [putSn, putVw, flagB, List.length_append, List.length_singleton, numB_len, txt_len]
  omega
theorem flat_put_len : ∀ l : List SnV, (∀ s ∈ l, SnG s ∧ s.ch.length ≤ 10000) → (l.flatMap putSn).length ≤ 280400 * l.length
  | [], _ => by simp
  | s :: l, h => by
    have ih := flat_put_len l fun x hx => h x (List.mem_cons_of_mem _ hx)
    have := putSn_len (h s (by simp)).1 (h s (by simp)).2
    rw [List.flatMap_cons, List.length_append, List.length_cons]
    omega
def HPutTo (w : World) (v : HdV) (e : Ending) (w' : World) : Prop :=
  Below w.heap.size w w' ∧ ((v.B = true ∧ ∃ p, e = .returned (.tuple #[p, .nilIface]) ∧ Own w' w.heap.size p v.put.length v.put) ∨ (v.B = false ∧ e = .returned (.tuple #[.slice none 0 0, errV 2])))
set_option maxHeartbeats 16000000 in
theorem hput_any {w : World} (h : HA) (hR : h.R SA.cells w) (hS : h.Sm) : Calls Try.prog 10 #[.agg h.cs] w (HPutTo w h.v) := by
  obtain ⟨w0, hw0⟩ : ∃ w0, w0 = w.alloc (.cells h.cs 36) := ⟨_, rfl⟩
  have hb0 : Below w.heap.size w w0 := by rw [hw0]; exact below_alloc w _
  have HZ0 : w0.heap.size = w.heap.size + 1 := by rw [hw0]; simp
  have K0 : Blk w0 w.heap.size 36 #[.int .i64 h.id, .int .i64 h.vw.size, .int .i64 h.obj, .int .i64 h.seq, .slice h.S h.sn.length h.cs', .bool h.vw.on, .bool h.vw.good, .slice h.vw.M h.vw.row.length h.vw.cm, .string (strOf h.vw.par), .int .i64 h.vw.ps, .int .i64 h.vw.ov, .int .i64 h.ow, .int .i64 h.it, .int .i64 h.tg] := by rw [hw0]; exact Blk.new w _ _
  have HGD := Lib.hid (good_head h w0 (hR.since hb0) hS)
  have HR := Lib.hid hR
  have HSM := Lib.hid hS
  have HW := Lib.hid hw0
  have HB0 := Lib.hid hb0
  have HK0 := Lib.hid K0
  have x0 : w0.cell? ⟨w.heap.size, 0, none⟩ = some (.int .i64 h.id) := (K0).cell 0
  have x1 : w0.cell? ⟨w.heap.size, 1, none⟩ = some (.int .i64 h.vw.size) := (K0).cell 1
  have x2 : w0.cell? ⟨w.heap.size, 2, none⟩ = some (.int .i64 h.obj) := (K0).cell 2
  have x3 : w0.cell? ⟨w.heap.size, 3, none⟩ = some (.int .i64 h.seq) := (K0).cell 3
  have x4 : w0.cell? ⟨w.heap.size, 4, none⟩ = some (.slice h.S h.sn.length h.cs') := (K0).cell 4
  have x5 : w0.cell? ⟨w.heap.size, 5, none⟩ = some (.bool h.vw.on) := (K0).cell 5
  have x6 : w0.cell? ⟨w.heap.size, 6, none⟩ = some (.bool h.vw.good) := (K0).cell 6
  have x7 : w0.cell? ⟨w.heap.size, 7, none⟩ = some (.slice h.vw.M h.vw.row.length h.vw.cm) := (K0).cell 7
  have x8 : w0.cell? ⟨w.heap.size, 8, none⟩ = some (.string (strOf h.vw.par)) := (K0).cell 8
  have x9 : w0.cell? ⟨w.heap.size, 9, none⟩ = some (.int .i64 h.vw.ps) := (K0).cell 9
  have x10 : w0.cell? ⟨w.heap.size, 10, none⟩ = some (.int .i64 h.vw.ov) := (K0).cell 10
  have x11 : w0.cell? ⟨w.heap.size, 11, none⟩ = some (.int .i64 h.ow) := (K0).cell 11
  have x12 : w0.cell? ⟨w.heap.size, 12, none⟩ = some (.int .i64 h.it) := (K0).cell 12
  have x13 : w0.cell? ⟨w.heap.size, 13, none⟩ = some (.int .i64 h.tg) := (K0).cell 13
  have hzw := writer_zero9
  clear hR hS hw0 hb0 K0
  unfold HA.cs at *
  go_enter Try.func10, Try.ntmps10
  go_upto_region 1 with (fail)
  rw [← HW.out]
  clear HW
  go_wp2_with fail
  refine HGD.out.mono ?_
  rintro e w1 ⟨rfl, b1⟩
  have HB1 := Lib.hid (HB0.out.trans (b1.mono HB0.out.size))
  have HK1 := Lib.hid (HK0.out.of (b1.block _ HK0.out.lt))
  have HR1 := Lib.hid (HR.out.since HB1.out)
  clear b1 HGD x0 x1 x2 x3 x4 x5 x6 x7 x8 x9 x10 x11 x12 x13
  cases hB : h.v.B with
  | false =>
    have HN := Lib.hid hB
    clear hB
    go_wp2
    go_ret2
    exact ⟨HB1.out, .inr ⟨HN.out, rfl⟩⟩
  | true =>
    have HN := Lib.hid hB
    have HG := Lib.hid (HdV.B_good hB)
    have hcn : h.sn.length ≤ 16 := by have := HG.out.cn; simpa [HA.v] using this
    clear hB
    obtain ⟨wA, hwA⟩ : ∃ wA, wA = w1.alloc (.cells #[.slice none 0 0] 70) := ⟨_, rfl⟩
    have hbA : Below w1.heap.size w1 wA := by rw [hwA]; exact below_alloc w1 _
    obtain ⟨g, hg⟩ : ∃ g, g = w1.heap.size := ⟨_, rfl⟩
    have HWA : Hid (Wst w1 wA wA [g] [g] g []) := Lib.hid (Wst.start (by rw [hwA, hg]; exact Wr.made9 w1) hbA)
    have HX : Hid (∀ {wr F' L'}, Wst w1 wA wr [g] F' g L' → Blk wr w.heap.size 36 #[.int .i64 h.id, .int .i64 h.vw.size, .int .i64 h.obj, .int .i64 h.seq, .slice h.S h.sn.length h.cs', .bool h.vw.on, .bool h.vw.good, .slice h.vw.M h.vw.row.length h.vw.cm, .string (strOf h.vw.par), .int .i64 h.vw.ps, .int .i64 h.vw.ov, .int .i64 h.ow, .int .i64 h.it, .int .i64 h.tg]) := Lib.hid fun hs => HK1.out.of (hs.bel.block _ HK1.out.lt)
    have KA := HX.out HWA.out
    have x0 : wA.cell? ⟨w.heap.size, 0, none⟩ = some (.int .i64 h.id) := (KA).cell 0
    have x1 : wA.cell? ⟨w.heap.size, 1, none⟩ = some (.int .i64 h.vw.size) := (KA).cell 1
    have x2 : wA.cell? ⟨w.heap.size, 2, none⟩ = some (.int .i64 h.obj) := (KA).cell 2
    have x3 : wA.cell? ⟨w.heap.size, 3, none⟩ = some (.int .i64 h.seq) := (KA).cell 3
    have x4 : wA.cell? ⟨w.heap.size, 4, none⟩ = some (.slice h.S h.sn.length h.cs') := (KA).cell 4
    have HW2 := Lib.hid (And.intro hwA hg)
    clear KA hbA hwA hg
    go_upto_region 4 with (fail)
    rw [← HW2.out.1, ← HW2.out.2]
    clear HW2
    go_wp2
    clear x0 x1 x2 x3 x4
    go_loopw [29] (fun i wr => ∃ (k : Nat) (F' : List Nat), k ≤ 5 ∧ i = .int .i64 k ∧ Wst w1 wA wr [g] F' g ([] ++ (([h.id, h.vw.size, h.obj, h.seq, (h.sn.length : Int)] : List Int).take k).flatMap numB)) (fun i _ => 5 - (intOf i).toNat)
    case atStart => exact ⟨0, [g], by omega, rfl, by simpa using HWA.out⟩
    case round =>
      obtain ⟨k, F', hk, rfl, hst⟩ := hrel
      have HST := Lib.hid hst
      clear hst
      have hwk : IntKind.i64.wrap ((k : Int) + 1) = (k : Int) + 1 := by rw [IntKind.wrap_i64]; omega
      have htl : (([h.id, h.vw.size, h.obj, h.seq, (h.sn.length : Int)] : List Int).take k).length ≤ 5 := by rw [List.length_take]; simp; omega
      have hfl := flat_numB_len (([h.id, h.vw.size, h.obj, h.seq, (h.sn.length : Int)] : List Int).take k)
      have HFL : Hid (([] ++ (([h.id, h.vw.size, h.obj, h.seq, (h.sn.length : Int)] : List Int).take k).flatMap numB).length ≤ 8500000) := Lib.hid (by rw [List.length_append, hfl]; first | omega | (simp only [List.length_nil]; omega))
      clear hfl htl
      by_cases hlt : k < 5
      · obtain ⟨x, hx⟩ : ∃ x, ([h.id, h.vw.size, h.obj, h.seq, (h.sn.length : Int)] : List Int)[k]? = some x := ⟨_, List.getElem?_eq_getElem (by simpa using hlt)⟩
        have hix := run_index_n (P := Try.prog) 5 71 3 (([h.id, h.vw.size, h.obj, h.seq, (h.sn.length : Int)] : List Int).map (Value.int .i64)) k (.int .i64 x) Try.underlying71 (by kernel_rfl) (fun w => by kernel_rfl) hlt (i64_at hx) wr
        simp only [List.map_cons, List.map_nil] at hix
        have HX2 := Lib.hid (take_snocI hx)
        clear hx
        go_wp2_with fail
        refine (wnum_any wr w1.heap.size _ _ _ x HST.out.wrt (by have := HFL.out; omega) HST.out.bel.size).mono ?_
        rintro e w7 ⟨rfl, ht⟩
        obtain ⟨F7, h7⟩ := HST.out.then_ ht
        rw [plus_some, List.append_assoc] at h7
        have H7 := Lib.hid h7
        clear ht h7
        go_wp2
        go_roundw
        case rel => exact ⟨k + 1, F7, by omega, by go_num, by rw [HX2.out, List.flatMap_append]; simpa using H7.out⟩
        case measure => simp [intOf]; omega
      · have hkn : k = 5 := by omega
        have d9 : decide ((k : Int) < 5) = false := decide_eq_false (by omega)
        have hq0 := HST.out
        have hf0 := HFL.out
        rw [hkn] at hq0 hf0
        have HQ0 := Lib.hid hq0
        have HF0 := Lib.hid hf0
        clear hq0 hf0 hkn HST HFL
        go_upto_region 9 with (fail)
        have q := HQ0.out
        obtain ⟨M, hM⟩ : ∃ M, M = [] ++ (([h.id, h.vw.size, h.obj, h.seq, (h.sn.length : Int)] : List Int).take 5).flatMap numB := ⟨_, rfl⟩
        rw [← hM] at q
        have hml : M.length ≤ 40 := by rw [hM, List.nil_append, flat_numB_len]; simp
        have HM := Lib.hid hM
        have HQ := Lib.hid q
        have x4 : wr.cell? ⟨w.heap.size, 4, none⟩ = some (.slice h.S h.sn.length h.cs') := (HX.out q).cell 4
        clear q hM HQ0 HF0
        rename World => wq
        go_wp2
        clear x4
        go_loopw [39] (fun i wr => ∃ (k : Nat) (F' : List Nat), k ≤ h.sn.length ∧ i = .int .i64 k ∧ Wst w1 wA wr [g] F' g (M ++ ((h.sn.map SA.v).take k).flatMap putSn)) (fun i _ => h.sn.length - (intOf i).toNat)
        case atStart => exact ⟨0, F', by omega, rfl, by simpa using HQ.out⟩
        case round =>
          clear HQ
          obtain ⟨k, F', hk, rfl, hst⟩ := hrel
          have HST := Lib.hid hst
          have hwk : IntKind.i64.wrap ((k : Int) + 1) = (k : Int) + 1 := by rw [IntKind.wrap_i64]; omega
          have HLN : Hid ((M ++ ((h.sn.map SA.v).take k).flatMap putSn).length ≤ 4500000) := Lib.hid (by
            have := flat_put_len ((h.sn.map SA.v).take k) (fun s hs => by
              have hs2 := List.mem_of_mem_take hs
              obtain ⟨a, ha, rfl⟩ := List.mem_map.1 hs2
              exact ⟨HG.out.sn _ hs2, (HSM.out.sn a ha).ch⟩)
            rw [List.length_take, List.length_map] at this
            rw [List.length_append]
            omega)
          clear hst
          by_cases hlt : k < h.sn.length
          · obtain ⟨s, hs⟩ : ∃ s, h.sn[k]? = some s := ⟨_, List.getElem?_eq_getElem hlt⟩
            have hR2 := HR1.out.since (show Below w1.heap.size w1 w1 from Below.refl _ _)
            obtain ⟨ad, had, -, hc⟩ := snap_at SA.cells_len (HR1.out.row.below HST.out.bel) hs
            have hsm := List.mem_of_getElem? hs
            have hSG : SnG s.v := HG.out.sn _ (List.mem_map.2 ⟨s, hsm, rfl⟩)
            have HTK := Lib.hid (take_snocI (show (h.sn.map SA.v)[k]? = some s.v by rw [List.getElem?_map, hs]; rfl))
            obtain ⟨wB, hwB⟩ : ∃ wB, wB = wr.alloc (.cells s.cells.toArray 62) := ⟨_, rfl⟩
            have hbB : Below wr.heap.size wr wB := by rw [hwB]; exact below_alloc wr _
            have KB : Blk wB wr.heap.size 62 #[.int .i64 s.num, .int .i64 s.vw.size, .string (strOf s.name), .bool s.vw.on, .bool s.vw.good, .bool s.prot, .slice s.vw.M s.vw.row.length s.vw.cm, .string (strOf s.vw.par), .int .i64 s.vw.ps, .int .i64 s.vw.ov, .slice s.C s.ch.length s.cc] := by rw [hwB]; exact Blk.new wr _ _
            have HSB := Lib.hid (HST.out.next hbB)
            have HPT := Lib.hid (sput_any s (HR1.out.sn s hsm) (HSM.out.sn s hsm) hSG.row (HSM.out.sn s hsm).ch (fun c hc => (named_len (hSG.ch c hc)).2) HSB.out.wrt HSB.out.bel (by have := HLN.out; omega) (named_len hSG.name).2 hSG.par)
            have HWB := Lib.hid hwB
            unfold SA.cells at HPT HWB
            generalize h.S = sS at *
            subst had
            clear hs hsm hSG hwB hbB hR2
            go_upto_region 12 with (have _h := hc; refine wpList_loadp rfl 62 (.tmp 41) rfl _ [.int .i64 s.num, .int .i64 s.vw.size, .string (strOf s.name), .bool s.vw.on, .bool s.vw.good, .bool s.prot, .slice s.vw.M s.vw.row.length s.vw.cm, .string (strOf s.vw.par), .int .i64 s.vw.ps, .int .i64 s.vw.ov, .slice s.C s.ch.length s.cc] _ rfl hc Try.underlying62 rfl (by kernel_rfl) ?_; clear _h hc)
            rw [← HWB.out]
            clear HWB
            go_wp2_with (have _h := KB; refine wpList_loadq rfl 62 (.tmp 8) rfl wr.heap.size [.int .i64 s.num, .int .i64 s.vw.size, .string (strOf s.name), .bool s.vw.on, .bool s.vw.good, .bool s.prot, .slice s.vw.M s.vw.row.length s.vw.cm, .string (strOf s.vw.par), .int .i64 s.vw.ps, .int .i64 s.vw.ov, .slice s.C s.ch.length s.cc] _ rfl KB Try.underlying62 rfl (by kernel_rfl) ?_; clear _h KB)
            refine HPT.out.mono ?_
            rintro e w9 ⟨rfl, ht⟩
            obtain ⟨F9, h9⟩ := HSB.out.then2 ht
            rw [List.append_assoc] at h9
            have H9 := Lib.hid h9
            clear ht h9 HPT
            go_wp2
            go_roundw
            case rel => exact ⟨k + 1, F9, by omega, by go_num, by rw [HTK.out, List.flatMap_append]; simpa using H9.out⟩
            case measure => simp [intOf]; omega
          · obtain rfl : k = h.sn.length := by omega
            have q := HST.out
            obtain ⟨N, hN⟩ : ∃ N, N = M ++ ((h.sn.map SA.v).take h.sn.length).flatMap putSn := ⟨_, rfl⟩
            rw [← hN] at q HLN
            have hnl := HLN.out
            have HNN := Lib.hid hN
            have HQ := Lib.hid q
            have KQ := HX.out q
            have x0 : wr.cell? ⟨w.heap.size, 0, none⟩ = some (.int .i64 h.id) := (KQ).cell 0
            have x1 : wr.cell? ⟨w.heap.size, 1, none⟩ = some (.int .i64 h.vw.size) := (KQ).cell 1
            have x2 : wr.cell? ⟨w.heap.size, 2, none⟩ = some (.int .i64 h.obj) := (KQ).cell 2
            have x3 : wr.cell? ⟨w.heap.size, 3, none⟩ = some (.int .i64 h.seq) := (KQ).cell 3
            have x4 : wr.cell? ⟨w.heap.size, 4, none⟩ = some (.slice h.S h.sn.length h.cs') := (KQ).cell 4
            have x5 : wr.cell? ⟨w.heap.size, 5, none⟩ = some (.bool h.vw.on) := (KQ).cell 5
            have x6 : wr.cell? ⟨w.heap.size, 6, none⟩ = some (.bool h.vw.good) := (KQ).cell 6
            have x7 : wr.cell? ⟨w.heap.size, 7, none⟩ = some (.slice h.vw.M h.vw.row.length h.vw.cm) := (KQ).cell 7
            have x8 : wr.cell? ⟨w.heap.size, 8, none⟩ = some (.string (strOf h.vw.par)) := (KQ).cell 8
            have x9 : wr.cell? ⟨w.heap.size, 9, none⟩ = some (.int .i64 h.vw.ps) := (KQ).cell 9
            have x10 : wr.cell? ⟨w.heap.size, 10, none⟩ = some (.int .i64 h.vw.ov) := (KQ).cell 10
            have x11 : wr.cell? ⟨w.heap.size, 11, none⟩ = some (.int .i64 h.ow) := (KQ).cell 11
            have x12 : wr.cell? ⟨w.heap.size, 12, none⟩ = some (.int .i64 h.it) := (KQ).cell 12
            have x13 : wr.cell? ⟨w.heap.size, 13, none⟩ = some (.int .i64 h.tg) := (KQ).cell 13
            have HVW := Lib.hid (hview_any h wr)
            unfold HA.cs at HVW
            clear q hN HST KQ HLN
            rename World => wq
            go_wp2_with fail
            refine HVW.out.mono ?_
            rintro e w5 ⟨rfl, b5⟩
            have H5 := Lib.hid (HQ.out.next b5)
            clear b5 HVW x0 x1 x2 x3 x4 x5 x6 x7 x8 x9 x10 x11 x12 x13
            go_wp2_with fail
            refine (vput_any h.vw HR1.out.vw HSM.out.vw HG.out.row H5.out.wrt H5.out.bel (by omega)).mono ?_
            rintro e w6 ⟨rfl, ht⟩
            obtain ⟨F6, h6⟩ := H5.out.then2 ht
            have K6 := HX.out h6
            have x11 : w6.cell? ⟨w.heap.size, 11, none⟩ = some (.int .i64 h.ow) := K6.cell 11
            have x12 : w6.cell? ⟨w.heap.size, 12, none⟩ = some (.int .i64 h.it) := K6.cell 12
            have x13 : w6.cell? ⟨w.heap.size, 13, none⟩ = some (.int .i64 h.tg) := K6.cell 13
            obtain ⟨R, hR⟩ : ∃ R, R = N ++ putVw h.vw.mk' h.vw.lk := ⟨_, rfl⟩
            rw [← hR] at h6
            have hrl : R.length ≤ 5000000 := by
              have h1 := putMk_len (m := h.vw.mk') HG.out.row
              have h2 : (putLk h.vw.lk).length = 8 + h.vw.par.length + 16 := by simp only [putLk, txt, List.length_append, numB_len]; rfl
              have h3 : h.vw.par.length ≤ 20 := HG.out.par
              rw [hR, putVw, List.length_append, List.length_append]
              omega
            have HRR := Lib.hid hR
            have H6 := Lib.hid h6
            clear ht h6 K6 hR
            go_wp2
            clear x11 x12 x13
            go_loopw [58] (fun i wr => ∃ (k : Nat) (F' : List Nat), k ≤ 3 ∧ i = .int .i64 k ∧ Wst w1 wA wr [g] F' g (R ++ (([h.ow, h.it, h.tg] : List Int).take k).flatMap numB)) (fun i _ => 3 - (intOf i).toNat)
            case atStart => exact ⟨0, F6, by omega, rfl, by simpa using H6.out⟩
            case round =>
              obtain ⟨k, F', hk, rfl, hst⟩ := hrel
              have HST := Lib.hid hst
              clear hst
              have hwk : IntKind.i64.wrap ((k : Int) + 1) = (k : Int) + 1 := by rw [IntKind.wrap_i64]; omega
              have htl : (([h.ow, h.it, h.tg] : List Int).take k).length ≤ 3 := by rw [List.length_take]; simp; omega
              have hfl := flat_numB_len (([h.ow, h.it, h.tg] : List Int).take k)
              have HFL : Hid ((R ++ (([h.ow, h.it, h.tg] : List Int).take k).flatMap numB).length ≤ 8500000) := Lib.hid (by rw [List.length_append, hfl]; first | omega | (simp only [List.length_nil]; omega))
              clear hfl htl
              by_cases hlt : k < 3
              · obtain ⟨x, hx⟩ : ∃ x, ([h.ow, h.it, h.tg] : List Int)[k]? = some x := ⟨_, List.getElem?_eq_getElem (by simpa using hlt)⟩
                have hix := run_index_n (P := Try.prog) 3 77 3 (([h.ow, h.it, h.tg] : List Int).map (Value.int .i64)) k (.int .i64 x) Try.underlying77 (by kernel_rfl) (fun w => by kernel_rfl) hlt (i64_at hx) wr
                simp only [List.map_cons, List.map_nil] at hix
                have HX2 := Lib.hid (take_snocI hx)
                clear hx
                go_wp2_with fail
                refine (wnum_any wr w1.heap.size _ _ _ x HST.out.wrt (by have := HFL.out; omega) HST.out.bel.size).mono ?_
                rintro e w7 ⟨rfl, ht⟩
                obtain ⟨F7, h7⟩ := HST.out.then_ ht
                rw [plus_some, List.append_assoc] at h7
                have H7 := Lib.hid h7
                clear ht h7
                go_wp2
                go_roundw
                case rel => exact ⟨k + 1, F7, by omega, by go_num, by rw [HX2.out, List.flatMap_append]; simpa using H7.out⟩
                case measure => simp [intOf]; omega
              · have hkn : k = 3 := by omega
                have d9 : decide ((k : Int) < 3) = false := decide_eq_false (by omega)
                have hq0 := HST.out
                have hf0 := HFL.out
                rw [hkn] at hq0 hf0
                have HQ0 := Lib.hid hq0
                have HF0 := Lib.hid hf0
                clear hq0 hf0 hkn HST HFL
                have q := HQ0.out
                have hfin : h.v.put = R ++ (([h.ow, h.it, h.tg] : List Int).take 3).flatMap numB := by
                  have e3 : ([h.ow, h.it, h.tg] : List Int).take 3 = [h.ow, h.it, h.tg] := rfl
                  have e5 : ([h.id, h.vw.size, h.obj, h.seq, (h.sn.length : Int)] : List Int).take 5 = [h.id, h.vw.size, h.obj, h.seq, (h.sn.length : Int)] := rfl
                  rw [HRR.out, HNN.out, HM.out, e3, e5, List.take_of_length_le (by rw [List.length_map]; exact Nat.le_refl _)]
                  simp only [HdV.put, HA.v, List.length_map, List.append_assoc, List.flatMap_cons, List.flatMap_nil, List.append_nil, List.nil_append]
                rw [← hfin] at q
                have hpl : h.v.put.length ≤ 8500000 := by rw [hfin]; exact HF0.out
                have HO := Lib.hid (out_any wr w1.heap.size _ _ _ q.wrt (by omega))
                have HQ2 := Lib.hid q
                clear q hfin hpl HF0 HQ0
                go_wp2_with fail
                refine HO.out.mono ?_
                rintro e w9 ⟨pp, rfl, ho, hb9⟩
                have HO9 := Lib.hid (And.intro ho hb9)
                clear ho hb9 HO
                go_wp2
                go_ret2
                exact ⟨HB1.out.trans ((HQ2.out.bel.trans (HO9.out.2.mono HQ2.out.bel.size)).mono HB1.out.size), .inl ⟨HN.out, _, rfl, HO9.out.1.weaken (Nat.le_trans HB1.out.size HQ2.out.bel.size)⟩⟩
end Go.Proofs.Ytldnghmgdmjljaa
