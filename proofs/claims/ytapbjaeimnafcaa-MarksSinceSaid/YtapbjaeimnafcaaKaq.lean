/-
  What the laws' own Apart returns. Conditions: the rows are the call's own, each in a block of its own.
-/
import Derived.Test.YtapbjaeimnafcaaKap
import Derived.Deep.LoopGhost
import Derived.Deep.QuietTactic
import Derived.BigQuiet
namespace Go.Proofs.Ytapbjaeimnafcaa
open Go.RowKit
set_option linter.unusedSimpArgs false
set_option linter.unusedVariables false
/-- rows of the call's own, each in a block of its own -/
structure Rowed (w : World) (base : Nat) (vs : Nat → Value) (ns : Nat → Nat) (m : Nat) : Prop where
  own : ∀ i, i < m → ∃ bs, Own w base (vs i) (ns i) bs
  dis : ∀ i j, i < m → j < m → i ≠ j → ∀ b, (vs i).ownBlock = some b → (vs j).ownBlock ≠ some b
/-- the rows up to k are marked -/
structure Marked (w : World) (base : Nat) (vs : Nat → Value) (ns : Nat → Nat) (m k : Nat) : Prop where
  rows : Rowed w base vs ns m
  done : ∀ i, i < k → i < m → Own w base (vs i) (ns i) (marks i (ns i))
theorem Marked.step {w w' : World} {base : Nat} {vs : Nat → Value} {ns : Nat → Nat} {m k : Nat} (h : Marked w base vs ns m k) (hk : k < m) (ho : Own w' base (vs k) (ns k) (marks k (ns k))) (hn : Only (rowOf (vs k)) w w') : Marked w' base vs ns m (k + 1) := by
  have keep : ∀ i, i < m → i ≠ k → ∀ bs, Own w base (vs i) (ns i) bs → Own w' base (vs i) (ns i) bs := fun i hi hne bs hb =>
    row_of hb fun b hb' => hn.block b (row_under hb b hb') (fun hm => h.rows.dis i k hi hk hne b (mem_rowOf.1 hb') (mem_rowOf.1 hm))
  refine ⟨⟨fun i hi => ?_, h.rows.dis⟩, fun i hi him => ?_⟩
  · by_cases hik : i = k
    · subst hik; exact ⟨_, ho⟩
    · obtain ⟨bs, hb⟩ := h.rows.own i hi
      exact ⟨bs, keep i hi hik bs hb⟩
  · by_cases hik : i = k
    · subst hik; exact ho
    · exact keep i him hik _ (h.done i (by omega) him)
/-- the rows up to k are grown, as gs -/
structure Grown (w : World) (base : Nat) (vs gs : Nat → Value) (ns : Nat → Nat) (m k : Nat) : Prop where
  own : ∀ i, i < m → Own w base (vs i) (ns i) (marks i (ns i))
  dis : ∀ i j, i < m → j < m → i ≠ j → ∀ b, (vs i).ownBlock = some b → (vs j).ownBlock ≠ some b
  done : ∀ i, i < k → i < m → Own w base (gs i) (ns i + 10) (marks i (ns i + 10))
  gap : ∀ i j, i < k → i < m → j < m → i ≠ j → ∀ b, (gs i).ownBlock = some b → (vs j).ownBlock ≠ some b
theorem Grown.below {w w' : World} {base : Nat} {vs gs : Nat → Value} {ns : Nat → Nat} {m k : Nat} (h : Grown w base vs gs ns m k) (hb : Below w.heap.size w w') : Grown w' base vs gs ns m k :=
  ⟨fun i hi => (h.own i hi).below hb, h.dis, fun i hi him => (h.done i hi him).below hb, h.gap⟩
theorem Grown.keep {w w' : World} {base : Nat} {vs gs : Nat → Value} {ns : Nat → Nat} {m k : Nat} (h : Grown w base vs gs ns m k) (hv : ∀ i, i < m → ∀ b, (vs i).ownBlock = some b → w'.heap[b]? = w.heap[b]?) (hg : ∀ i, i < k → i < m → ∀ b, (gs i).ownBlock = some b → w'.heap[b]? = w.heap[b]?) : Grown w' base vs gs ns m k :=
  ⟨fun i hi => row_of (h.own i hi) fun b hb => hv i hi b (mem_rowOf.1 hb), h.dis, fun i hi him => row_of (h.done i hi him) fun b hb => hg i hi him b (mem_rowOf.1 hb), h.gap⟩
theorem Grown.step {w w' : World} {base : Nat} {vs gs : Nat → Value} {ns : Nat → Nat} {m k : Nat} {v : Value} (h : Grown w base vs gs ns m k) (hk : k < m) (hg : Grow w w' base (vs k) (ns k) k v (ns k + 10)) : Grown w' base vs (fun i => if i = k then v else gs i) ns m (k + 1) := by
  have keepV : ∀ i, i < m → i ≠ k → Own w' base (vs i) (ns i) (marks i (ns i)) := fun i hi hne =>
    row_of (h.own i hi) fun b hb' => hg.only.block b (row_under (h.own i hi) b hb') (fun hm => h.dis i k hi hk hne b (mem_rowOf.1 hb') (mem_rowOf.1 hm))
  refine ⟨fun i hi => ?_, h.dis, fun i hi him => ?_, fun i j hi him hj hne b hb => ?_⟩
  · by_cases hik : i = k
    · subst hik; exact hg.old
    · exact keepV i hi hik
  · by_cases hik : i = k
    · subst hik; rw [if_pos rfl]; exact hg.cur
    · rw [if_neg hik]
      exact row_of (h.done i (by omega) him) fun b hb' => hg.only.block b (row_under (h.done i (by omega) him) b hb') (fun hm => h.gap i k (by omega) him hk hik b (mem_rowOf.1 hb') (mem_rowOf.1 hm))
  · by_cases hik : i = k
    · subst hik
      rw [if_pos rfl] at hb
      rcases hg.own b hb with h' | h'
      · exact h.dis i j him hj hne b h'
      · intro e
        have := (World.ownsRow.lt (h.own j hj) b e).2
        omega
    · rw [if_neg hik] at hb
      exact h.gap i j (by omega) him hj hne b hb
theorem mark_val (k j : Nat) (hk : k ≤ 1000) (hj : j ≤ 1000000) : IntKind.u8.wrap (31 * (k : Int) + 3 * (j : Int) + 1) = ((mark k j : Nat) : Int) := by
  rw [IntKind.wrap_u8]
  unfold mark
  omega
theorem mark_val2 (k j : Nat) : (31 * (k : Int) + 3 * (j : Int) + 1) % 256 = ((mark k j : Nat) : Int) := by
  unfold mark
  omega
def hdr (vs : Nat → Value) (m : Nat) : List Value := (List.range m).map vs
theorem hdr_at (vs : Nat → Value) (m k : Nat) (h : k < m) : (hdr vs m)[k]? = some (vs k) := by simp [hdr, h]
theorem Reads.hdr_get {w : World} {B m k : Nat} {A : Option Addr} {vs : Nat → Value} (h : Reads w B 1 A m (hdr vs m)) (hk : k < m) : ∃ ad, A = some ad ∧ w.cell? (ad.add k) = some (vs k) := by
  obtain ⟨ad, u, e, _, hx, hc⟩ := h.at_ hk
  rw [hdr_at vs m k hk] at hx
  injection hx with hx
  subst hx
  exact ⟨ad, e, hc⟩
set_option maxRecDepth 100000 in
set_option maxHeartbeats 4000000 in
theorem apart_any (A : Option Addr) (m c B base : Nat) (vs : Nat → Value) (ns : Nat → Nat) (w : World) (hm : m ≤ 1000) (hR : Reads w B 1 A m (hdr vs m)) (hn : ∀ i, i < m → ns i ≤ 100000) (hV : Rowed w base vs ns m)
    (hh : ∀ ad, A = some ad → ∀ i, i < m → (vs i).ownBlock ≠ some ad.block) (hbase : base ≤ w.heap.size) :
    Calls Try.prog 18 #[.slice A m c] w fun e w' => e = .returned (.bool true) ∧ Below base w w' := by
  have HR := Lib.hid hR
  have HN := Lib.hid hn
  have HV := Lib.hid hV
  have HH := Lib.hid hh
  have hRO : ∀ (F : List Nat) (w' : World), (∀ b ∈ F, ∀ ad, A = some ad → b ≠ ad.block) → Only F w w' → Reads w' B 1 A m (hdr vs m) := fun F w' hF ho =>
    ⟨hR.1, fun h0 => by
      obtain ⟨ad, e, hB, hc⟩ := hR.2 h0
      refine ⟨ad, e, hB, fun j u hu => ?_⟩
      have h1 := hc j u hu
      exact (World.cell?_of_block (ho.block (ad.add j).block (World.block_lt_of_cell? w _ h1) (fun hmem => hF _ hmem ad e (block_of_add ad j)))).trans h1⟩
  have HRO := Lib.hid hRO
  clear hR hn hV hh hRO
  go_enter Try.func18, Try.ntmps18
  go_wp2
  go_loopw [15] (fun i wr => ∃ k : Nat, k ≤ m ∧ i = .int .i64 k ∧ Marked wr base vs ns m k ∧ Below base w wr ∧ Reads wr B 1 A m (hdr vs m)) (fun i _ => m - (intOf i).toNat)
  case atStart => exact ⟨0, by omega, rfl, ⟨HV.out, fun i hi => by omega⟩, Below.refl _ _, HR.out⟩
  case round =>
    obtain ⟨k, hk, rfl, hM, hB, hr⟩ := hrel
    by_cases hlt : k < m
    · -- {one
      obtain ⟨ad, rfl, hc⟩ := hr.hdr_get hlt
      obtain ⟨bs, hbs⟩ := hM.rows.own k hlt
      have hnk := HN.out k hlt
      obtain ⟨Ak, ck, hvk, hcap, hmax, hform⟩ := hbs.form
      have HX := Lib.hid (And.intro hM (And.intro hB (And.intro hr hvk)))
      have Hbs := Lib.hid hbs
      rw [hvk] at hc
      clear hM hB hr hbs hvk
      rename World => wo
      go_wp2
      go_loopw [22] (fun i wr => ∃ j : Nat, j ≤ ns k ∧ i = .int .i64 j ∧ Own wr base (vs k) (ns k) (markTo k j bs) ∧ Only (rowOf (vs k)) wo wr) (fun i _ => ns k - (intOf i).toNat)
      case atStart => exact ⟨0, by omega, rfl, by simpa [markTo, marks] using Hbs.out, Only.refl _ _⟩
      case round =>
        obtain ⟨j, hj, rfl, ho, hon⟩ := hrel
        have hl := Hbs.out.len
        by_cases hlj : j < ns k
        · obtain ⟨g, hg⟩ : ∃ g, Ak = some ⟨g, 0, none⟩ := by
            rcases hform with ⟨_, h0, _⟩ | ⟨g, h, _⟩
            · omega
            · exact ⟨g, h⟩
          subst hg
          have hvk := HX.out.2.2.2
          rw [hvk] at ho
          have hml := markTo_len k j bs (by omega)
          have hcell : wr.cell? ⟨g, j, none⟩ = some (.int .u8 (((markTo k j bs)[j]'(by omega) : Nat) : Int)) := Own.cell ho (List.getElem?_eq_getElem (by omega))
          have hfz := Own.frozen ho j
          have hst := Own.stored ho j (mark k j)
          rw [markTo_set k j bs (by omega), ← hvk] at hst
          have hon' := hon.setCell (p := ⟨g, j, none⟩) (.inl (by rw [hvk]; simp [rowOf, Value.ownBlock])) (.int .u8 ((mark k j : Nat) : Int))
          have HE := Lib.hid (And.intro hst hon')
          have v1 := mark_val k j (by omega) (by omega)
          have v2 := mark_val2 k j
          generalize (markTo k j bs)[j]'(by omega) = ob at *
          clear ho hon hst hon' hvk hml
          go_wp2
          go_roundw
          case rel => exact ⟨j + 1, by omega, by go_num, HE.out.1, HE.out.2⟩
          case measure => simp [intOf]; omega
        · obtain rfl : j = ns k := by omega
          have hall : markTo k (ns k) bs = marks k (ns k) := by rw [← hl]; exact markTo_all k bs
          rw [hall] at ho
          have hM1 := HX.out.1.step hlt ho hon
          have hB1 : Below base wo wr := hon.below (fun b hb => (World.ownsRow.lt Hbs.out b (mem_rowOf.1 hb)).1) (Nat.le_trans hbase HX.out.2.1.size)
          have HE := Lib.hid (And.intro hM1 (And.intro (HX.out.2.1.trans hB1) hon))
          clear ho hon hM1 hB1 hall
          go_wp2
          go_roundw
          case rel =>
            refine ⟨k + 1, by omega, by go_num, HE.out.1, HE.out.2.1, ?_⟩
            refine ⟨HX.out.2.2.1.1, fun h0 => ?_⟩
            obtain ⟨ad', e, hB', hcc⟩ := HX.out.2.2.1.2 h0
            refine ⟨ad', e, hB', fun q u hu => ?_⟩
            have h1 := hcc q u hu
            exact (World.cell?_of_block (HE.out.2.2.block _ (World.block_lt_of_cell? wo _ h1) (fun hmem => HH.out ad' e k hlt (by rw [← block_of_add ad' q]; exact mem_rowOf.1 hmem)))).trans h1
          case measure => simp [intOf]; omega
      -- one}
    · obtain rfl : m = k := by omega
      have HX := Lib.hid (And.intro hM (And.intro hB hr))
      clear hM hB hr hlt
      have G0 : Grown (wr.alloc (.cells #[] 22)) base vs vs ns m 0 := ⟨fun i hi => (HX.out.1.done i hi hi).alloc _, HX.out.1.rows.dis, fun i hi => by omega, fun i j hi => by omega⟩
      have B0 := HX.out.2.1.alloc (Nat.le_trans hbase HX.out.2.1.size) (.cells #[] 22)
      have R0 : Reads (wr.alloc (.cells #[] 22)) B 1 A m (hdr vs m) := HX.out.2.2.since (below_alloc wr _)
      have L0 : (wr.alloc (.cells #[] 22)).ownsRow w.heap.size 22 1 (.slice (some ⟨wr.heap.size, 0, none⟩) 0 0) 0 [] := by
        have := World.ownsRow_made (base := w.heap.size) (e := 22) (size := 1) wr #[] 0 HX.out.2.1.size (by simp [maxLen]) (by simp)
        simpa using this
      have H0 := Lib.hid (And.intro G0 (And.intro B0 (And.intro R0 L0)))
      clear G0 B0 R0 L0
      go_wp2
      go_loopw [6, 40] (fun vg i wr => ∃ (k : Nat) (gs : Nat → Value), k ≤ m ∧ i = .int .i64 k ∧ Grown wr base vs gs ns m k ∧ Below base w wr ∧ w.heap.size ≤ wr.heap.size ∧ Reads wr B 1 A m (hdr vs m) ∧ wr.ownsRow w.heap.size 22 1 vg k (hdr gs k)) (fun _ i _ => m - (intOf i).toNat)
      case atStart => exact ⟨0, vs, by omega, rfl, H0.out.1, H0.out.2.1, H0.out.2.1.size, H0.out.2.2.1, by simpa [hdr] using H0.out.2.2.2⟩
      case round =>
        obtain ⟨k, gs, hk, rfl, hG, hB, hsz, hr, hL⟩ := hrel
        clear H0
        by_cases hlt : k < m
        · obtain ⟨ad, rfl, hc⟩ := hr.hdr_get hlt
          have hnk := HN.out k hlt
          have hbs := hG.own k hlt
          obtain ⟨Ak, ck, hvk, hcap, hmax, hform⟩ := hbs.form
          have HG := Lib.hid (And.intro hG (And.intro hB (And.intro hsz (And.intro hr (And.intro hL hvk)))))
          rw [hvk] at hc
          have Hbs := Lib.hid hbs
          clear hG hB hsz hr hL hbs hvk HX
          rename World => wo
          go_wp2
          go_loopg [8] 10 (fun gj v wr => ∃ q : Nat, ns k ≤ q ∧ q ≤ ns k + 10 ∧ gj = ns k + 10 - q ∧ Grow wo wr base (vs k) (ns k) k v q)
          case atStart => exact ⟨ns k, Nat.le_refl _, by omega, by omega, by rw [← HG.out.2.2.2.2.2]; exact Hbs.out, Hbs.out, Only.refl _ _, fun b hb => .inl (by rw [HG.out.2.2.2.2.2]; exact hb)⟩
          case round =>
            obtain ⟨q, hq1, hq2, rfl, hw⟩ := hrel
            obtain ⟨Aq, cq, rfl, hcq, hmq, -⟩ := hw.cur.form
            by_cases hlq : q < ns k + 10
            · have hd : decide ((q : Int) < (ns k : Int) + 10) = true := decide_eq_true (by omega)
              have HW := Lib.hid (hw.alloc (.cells (u8s [mark k q]).toArray 5))
              have hy : Bytes (wr.alloc (.cells (u8s [mark k q]).toArray 5)) (wr.alloc (.cells (u8s [mark k q]).toArray 5)).heap.size (some ⟨wr.heap.size, 0, none⟩) 1 [mark k q] := (Bytes.new wr [mark k q] 5 (0, 0) (by intro b hb; simp at hb; subst hb; exact Nat.mod_lt _ (by omega))).more (by simp)
              have hbw : base ≤ (wr.alloc (.cells (u8s [mark k q]).toArray 5)).heap.size := by
                have h1 := hw.only.size
                have h2 := HG.out.2.2.1
                simp
                omega
              have v1 := mark_val k q (by omega) (by omega)
              have v2 := mark_val2 k q
              clear hw
              go_wp2_with (refine app_two (.tmp 52) (.tmp 61) rfl rfl base (.slice Aq q cq) q (marks k q) rfl HW.out.cur _ 1 (mark k q) rfl hy (by omega) hbw ?_
                           intro v5 w5 h5 a5
                           have HS := Lib.hid (HW.out.step hq1 h5 a5)
                           clear h5 a5)
              go_roundg (ns k + 10 - (q + 1))
              case measure => omega
              case rel => exact ⟨q + 1, by omega, by omega, rfl, HS.out⟩
            · obtain rfl : q = ns k + 10 := by omega
              have hd : decide (((ns k + 10 : Nat) : Int) < (ns k : Int) + 10) = false := decide_eq_false (by omega)
              have hLo : wr.ownsRow w.heap.size 22 1 u6 k (hdr gs k) := row_of HG.out.2.2.2.2.1 fun b hb => hw.only.block b (row_under HG.out.2.2.2.2.1 b hb) (fun hmm => own_ne HG.out.2.2.2.2.1 (HG.out.1.own k hlt) (by decide) b (mem_rowOf.1 hb) (mem_rowOf.1 hmm))
              have hLa := World.ownsRow.alloc hLo (.cells [Value.slice Aq (ns k + 10) cq].toArray 22)
              have hG1 := (HG.out.1.step hlt hw).below (below_alloc wr (.cells [Value.slice Aq (ns k + 10) cq].toArray 22))
              have hB1 : Below base wo wr := hw.only.below (fun b hb => (World.ownsRow.lt (HG.out.1.own k hlt) b (mem_rowOf.1 hb)).1) (Nat.le_trans hbase HG.out.2.2.1)
              have hsz1 := hw.only.size
              have hr1 : Reads wr B 1 (some ad) m (hdr vs m) := by
                refine ⟨HG.out.2.2.2.1.1, fun h0 => ?_⟩
                obtain ⟨ad', e, hB', hcc⟩ := HG.out.2.2.2.1.2 h0
                refine ⟨ad', e, hB', fun q u hu => ?_⟩
                have h1 := hcc q u hu
                exact (World.cell?_of_block (hw.only.block _ (World.block_lt_of_cell? wo _ h1) (fun hmem => HH.out ad' e k hlt (by rw [← block_of_add ad' q]; exact mem_rowOf.1 hmem)))).trans h1
              have hB2 := (HG.out.2.1.trans hB1).alloc (Nat.le_trans (Nat.le_trans hbase HG.out.2.2.1) hsz1) (.cells [Value.slice Aq (ns k + 10) cq].toArray 22)
              have hr2 := hr1.since (below_alloc wr (.cells [Value.slice Aq (ns k + 10) cq].toArray 22))
              have hnew : Reads (wr.alloc (.cells [Value.slice Aq (ns k + 10) cq].toArray 22)) (wr.heap.size + 1) 1 (some ⟨wr.heap.size, 0, none⟩) 1 [Value.slice Aq (ns k + 10) cq] := Reads.new wr [Value.slice Aq (ns k + 10) cq] 22 (0, 0)
              have hszw : w.heap.size ≤ (wr.alloc (.cells [Value.slice Aq (ns k + 10) cq].toArray 22)).heap.size := by
                have := HG.out.2.2.1
                simp
                omega
              have HW := Lib.hid (And.intro hG1 (And.intro hB2 (And.intro hr2 hLa)))
              clear hw hLo hLa hG1 hB1 hr1 hB2 hr2 hsz1
              go_wp2_with (refine app_row (.tmp 63) (.tmp 65) rfl rfl w.heap.size u6 k (hdr gs k) rfl HW.out.2.2.2 _ (some ⟨wr.heap.size, 0, none⟩) 1 (.slice Aq (ns k + 10) cq) rfl hnew rfl (by omega) hszw ?_
                           intro v7 w7 h7 g7
                           have HL7 := Lib.hid (And.intro h7 g7)
                           clear h7 g7)
              go_roundw
              case rel =>
                have hov := HW.out.2.2.2
                have hgr := HL7.out.2
                refine ⟨k + 1, fun i => if i = k then .slice Aq (ns k + 10) cq else gs i, by omega, by go_num, ?_, ?_, Nat.le_trans hszw hgr.size, ?_, ?_⟩
                · refine HW.out.1.keep (fun i hi b hb => hgr.block b (World.ownsRow.lt (HW.out.1.own i hi) b hb).2 (fun e => own_ne hov (HW.out.1.own i hi) (by decide) b e.symm hb)) (fun i hi him b hb => hgr.block b (World.ownsRow.lt (HW.out.1.done i hi him) b hb).2 (fun e => own_ne hov (HW.out.1.done i hi him) (by decide) b e.symm hb))
                · exact HW.out.2.1.grown hgr (Nat.le_trans hbase hszw) (fun b e => by have := (World.ownsRow.lt hov b e).1; omega)
                · refine ⟨HW.out.2.2.1.1, fun h0 => ?_⟩
                  obtain ⟨ad', e, hB', hcc⟩ := HW.out.2.2.1.2 h0
                  refine ⟨ad', e, hB', fun q u hu => ?_⟩
                  have h1 := hcc q u hu
                  obtain ⟨ad0, e0, _, hcc0⟩ := HR.out.2 h0
                  have h2 := World.block_lt_of_cell? w _ (hcc0 q u hu)
                  rw [e0] at e
                  injection e with e
                  subst e
                  exact (World.cell?_of_block (hgr.block _ (World.block_lt_of_cell? _ _ h1) (fun e => by have := (World.ownsRow.lt hov _ e.symm).1; omega))).trans h1
                · have := HL7.out.1
                  have e : hdr (fun i => if i = k then Value.slice Aq (ns k + 10) cq else gs i) (k + 1) = hdr gs k ++ [Value.slice Aq (ns k + 10) cq] := by
                    unfold hdr
                    rw [List.range_succ, List.map_append]
                    congr 1
                    · refine List.map_congr_left fun i hi => ?_
                      have := List.mem_range.1 hi
                      rw [if_neg (by omega)]
                    · simp
                  rw [e]
                  exact this
              case measure => simp [intOf]; omega
        · obtain rfl : m = k := by omega
          have HG := Lib.hid (And.intro hG (And.intro hB (And.intro hsz (And.intro hr hL))))
          clear hG hB hsz hr hL hlt HX
          obtain ⟨AL, cL, rfl⟩ := row_form HG.out.2.2.2.2
          have hRL : Reads wr wr.heap.size 1 AL m (hdr gs m) := Reads.of_own HG.out.2.2.2.2
          have HRL := Lib.hid hRL
          clear hRL
          rename World => w3
          go_wp2
          go_loopw [70] (fun i wr => ∃ k : Nat, k ≤ m ∧ i = .int .i64 k ∧ Below w3.heap.size w3 wr) (fun i _ => m - (intOf i).toNat)
          case atStart => exact ⟨0, by omega, rfl, Below.refl _ _⟩
          case round =>
            obtain ⟨k, hk, rfl, hb3⟩ := hrel
            by_cases hlt : k < m
            · obtain ⟨adL, rfl, hcL⟩ := Reads.hdr_get (HRL.out.since hb3) hlt
              have hgk := HG.out.1.done k hlt hlt
              obtain ⟨Ag, cg, hgv, -, -, -⟩ := hgk.form
              have hnk := HN.out k hlt
              have hvk0 := HG.out.1.own k hlt
              obtain ⟨Ak, ck, hvk, -, -, -⟩ := hvk0.form
              rw [hgv] at hcL hgk
              rw [hvk] at hvk0
              have HY := Lib.hid (And.intro (hgk.bytes (marks_lt _ _)) (And.intro (hvk0.bytes (marks_lt _ _)) hvk))
              have HB3 := Lib.hid hb3
              clear hgk hgv hvk0 hvk hb3
              rename World => wo
              go_wp2
              go_loopw [77] (fun i wr => ∃ j : Nat, j ≤ ns k + 10 ∧ i = .int .i64 j ∧ Below w3.heap.size w3 wr) (fun i _ => ns k + 10 - (intOf i).toNat)
              case atStart => exact ⟨0, by omega, rfl, HB3.out⟩
              case round =>
                obtain ⟨j, hj, rfl, hbj⟩ := hrel
                by_cases hlj : j < ns k + 10
                · obtain ⟨ag, b, rfl, hb, hb256, hcg⟩ := (HY.out.1.since hbj).at_ hlj
                  rw [marks_at k _ j hlj] at hb
                  injection hb with hb
                  subst hb
                  obtain ⟨ad, rfl, hch⟩ := Reads.hdr_get (HG.out.2.2.2.1.since hbj) hlt
                  rw [HY.out.2.2] at hch
                  have v1 := mark_val k j (by omega) (by omega)
                  have v2 := mark_val2 k j
                  have HBj := Lib.hid hbj
                  by_cases hln : j < ns k
                  · obtain ⟨ak, b', rfl, hb', hb256', hck⟩ := (HY.out.2.1.since hbj).at_ hln
                    rw [marks_at k _ j hln] at hb'
                    injection hb' with hb'
                    subst hb'
                    have hd : decide ((j : Int) < (ns k : Int)) = true := decide_eq_true (by omega)
                    clear hbj
                    go_wp2_with fail
                    go_quiet (fail)
                    go_wp2
                    go_roundw
                    case rel => exact ⟨j + 1, by omega, by go_num, below_drewN HBj.out _⟩
                    case measure => simp [intOf]; omega
                  · have hd : decide ((j : Int) < (ns k : Int)) = false := decide_eq_false (by omega)
                    clear hbj
                    go_wp2_with fail
                    go_quiet (fail)
                    go_wp2
                    go_roundw
                    case rel => exact ⟨j + 1, by omega, by go_num, below_drewN HBj.out _⟩
                    case measure => simp [intOf]; omega
                · obtain rfl : j = ns k + 10 := by omega
                  go_wp2
                  go_roundw
                  case rel => exact ⟨k + 1, by omega, by go_num, hbj⟩
                  case measure => simp [intOf]; omega
            · obtain rfl : m = k := by omega
              go_wp2
              go_ret
              exact ⟨rfl, HG.out.2.1.trans (hb3.mono (Nat.le_trans hbase HG.out.2.2.1))⟩
end Go.Proofs.Ytapbjaeimnafcaa
