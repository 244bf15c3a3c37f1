/-
  The plain disk's Crash and Put. Conditions: the rows read as they are said to; each write's number is a sector's.
-/
import Derived.Test.YtgcghoalepkdfaaRefP
namespace Go.Proofs.Ytgcghoalepkdfaa
open Go.RowKit
set_option linter.unusedSimpArgs false
set_option linter.unusedVariables false
/-- the writes of whom those are left whose place is kept -/
def keptL (kept : Nat → Bool) : Nat → List (Int × Sec) → List (Int × Sec)
  | _, [] => []
  | n, x :: l => if kept n then x :: keptL kept (n + 1) l else keptL kept (n + 1) l
theorem keptL_snoc (kept : Nat → Bool) (x : Int × Sec) : ∀ (l : List (Int × Sec)) (n : Nat), keptL kept n (l ++ [x]) = keptL kept n l ++ (if kept (n + l.length) then [x] else [])
  | [], n => by simp [keptL]
  | y :: l, n => by
    simp only [List.cons_append, keptL, List.length_cons]
    rw [keptL_snoc kept x l (n + 1), show n + 1 + l.length = n + (l.length + 1) by omega]
    by_cases h : kept n <;> simp [h]
theorem keptL_mem (kept : Nat → Bool) : ∀ (l : List (Int × Sec)) (n : Nat), ∀ x ∈ keptL kept n l, x ∈ l
  | [], n, x, h => by simp [keptL] at h
  | y :: l, n, x, h => by
    simp only [keptL] at h
    split at h
    · rcases List.mem_cons.1 h with rfl | h
      · simp
      · exact List.mem_cons_of_mem _ (keptL_mem kept l _ x h)
    · exact List.mem_cons_of_mem _ (keptL_mem kept l _ x h)
theorem keptL_len (kept : Nat → Bool) : ∀ (l : List (Int × Sec)) (n : Nat), (keptL kept n l).length ≤ l.length
  | [], n => by simp [keptL]
  | y :: l, n => by
    have := keptL_len kept l (n + 1)
    simp only [keptL]
    split <;> simp <;> omega
theorem settled_kept (kept : Nat → Bool) : ∀ (l : List (Int × Sec)) (n m : Nat) (f : Int → Sec), settled (fun _ => true) m (keptL kept n l) f = settled kept n l f
  | [], n, m, f => by simp [keptL, settled]
  | y :: l, n, m, f => by
    simp only [keptL, settled]
    by_cases h : kept n
    · simp only [h, if_true, settled]
      exact settled_kept kept l (n + 1) (m + 1) _
    · simp only [h, Bool.false_eq_true, if_false]
      exact settled_kept kept l (n + 1) m _
theorem run_storeVar_cell {P : Program} (w : World) (g i : Nat) (ty : TypeId) (v : Value) (ht : w.there g i 1) (hi : (P.info? ty).map (·.size) = some 1) (h1 : v.oneCell' = true) :
    (storeVar ty ⟨g, i, none⟩ v).run P w = .ok () (w.setCell ⟨g, i, none⟩ v) := by
  have := run_storeCells_cells (P := P) g i [v] 0 w (fun j hj => by simpa using (ht j (by simpa using hj)).1) (fun j hj => by simpa using (ht j (by simpa using hj)).2) (fun u hu => by simp at hu; subst hu; exact h1)
  have hc : v.cells = #[v] := by cases v <;> first | rfl | cases h1
  cases hq : P.info? ty with
  | none => simp [hq] at hi
  | some i0 =>
    have hs : i0.size = 1 := by simpa [hq] using hi
    simp only [Nat.add_zero] at this
    simp [storeVar, sizeOf, typeInfo, hq, hc, hs, this, World.setCells]
theorem Blk.only {F : List Nat} {w w' : World} {g : Nat} {t : TypeId} {cs : Array Value} (h : Blk w g t cs) (ho : Only F w w') (hn : g ∉ F) : Blk w' g t cs := h.of (ho.block g h.lt hn)
/-- one cell of a block known whole is stored -/
theorem wpList_set_blk {P : Program} {ops : Array Oper} {rest : List Oper} {o : Oper} {a : Act} {w : World} {Q : Exit → Act → World → Prop} (hgd : o.guard = none) (ty : TypeId) (x y : Operand) (ho : o.op = .store ty x y)
    (g i : Nat) (t : TypeId) (cs : Array Value) (v : Value) (hx : a.eval x = .pointer (some ⟨g, i, none⟩)) (hy : a.eval y = v) (hB : Blk w g t cs) (hs : i < cs.size) (hi : (P.info? ty).map (·.size) = some 1) (h1 : v.oneCell' = true)
    (h : ∀ w', Blk w' g t (cs.setIfInBounds i v) → Only [g] w w' → w'.heap.size = w.heap.size → wpList P ops Q rest (a.put o.dst undef) w') : wpList P ops Q (o :: rest) a w :=
  wpList_plain hgd fun _ hK => by
    unfold Oper.wp execOp
    simp only [ho, hx, hy, Instr.storeAt, Instr.sureAddr, Sem.run_bind, Sem.run_pure, Result.andThen_ok, run_storeVar_cell w g i ty v (hB.there (by omega)) hi h1]
    exact hK _ _ (h _ (hB.set_ i v) ((Only.refl _ _).setCell (.inl (by simp)) _) (by simp [World.setCell]))
theorem wpList_slice_rwrite {ops : Array Oper} {rest : List Oper} {o : Oper} {a : Act} {w : World} {Q : Exit → Act → World → Prop} (hg : o.guard = none) (y : Operand) (ho : o.op = .buildSlice 34 1 #[(0, y)])
    (x : Int × Sec) (hx : a.eval y = .agg (rwc x).toArray) (h : wpList Try.prog ops Q rest (a.put o.dst (.slice (some ⟨w.heap.size, 0, none⟩) 1 1)) (w.alloc (.cells (rwc x).toArray 87))) : wpList Try.prog ops Q (o :: rest) a w :=
  wpList_plain hg fun _ hK => wp_ran (v := .slice (some ⟨w.heap.size, 0, none⟩) 1 1) (w' := w.alloc (.cells (rwc x).toArray 87)) (by simp [execOp, ho, hx, slice_rwrite x, Result.andThen]) (hK _ _ h)
set_option maxRecDepth 100000 in
set_option maxHeartbeats 1000000 in
theorem rcrash_any (w : World) (AA : Option Addr) (c : Nat) (AW : Option Addr) (cw : Nat) (d : DM) (l : Nat) (AK : Option Addr) (ck : Nat) (keep : List Bool) (h : RefAt w w.heap.size AA c AW cw d) (hl : Left d l) (hw : d.wait.length ≤ 1000000) (hkp : keep.length ≤ 1000000)
    (hK : Reads w w.heap.size 1 AK keep.length (flags keep)) :
    Calls Try.prog 31 #[.agg (rl AA d.n c AW d.wait.length cw d.steps l d.armed d.gone).toArray, .slice AK keep.length ck] w fun e w' => ∃ v, e = .returned v ∧ RTo w AA AW (d.crash keep) v w' := by
  have hz : ∀ w, (zeroValue 36).run Try.prog w = .ok (.agg (rl none 0 0 none 0 0 0 0 false false).toArray) w := rdisk_zero
  have hu := Try.underlying36
  obtain ⟨i0, hi0, hz0, hz1, hz2⟩ := info_parts rwrite_info
  have hu2 := Try.underlying87
  have H := Lib.hid h
  have HL := Lib.hid hl
  have HK := Lib.hid hK
  clear h hl hK
  go_enter Try.func31, Try.ntmps31
  go_wp2_with fail
  generalize hw1 : World.alloc _ (Obj.cells (rl none 0 0 none 0 0 0 0 false false).toArray 36) = w1
  have B0 : Blk w1 w.heap.size 36 (rl AA d.n c AW d.wait.length cw d.steps l d.armed d.gone).toArray := by rw [← hw1]; exact (Blk.new w _ _).alloc _
  have B1 : Blk w1 (w.heap.size + 1) 36 (rl none 0 0 none 0 0 0 0 false false).toArray := by rw [← hw1]; exact two_allocs _ _ _
  have hb1 : Below w.heap.size w w1 := by rw [← hw1]; exact two_below _ _ _
  have B0 := Lib.hid B0
  have B1 := Lib.hid B1
  have hb1 := Lib.hid hb1
  clear hw1
  go_loopw [5, 6] (fun v i wr => ∃ (k : Nat) (u : Value), k ≤ d.wait.length ∧ i = .int .i64 k ∧ u = v ∧ Below w.heap.size w wr ∧ Blk wr w.heap.size 36 (rl AA d.n c AW d.wait.length cw d.steps l d.armed d.gone).toArray ∧
    Blk wr (w.heap.size + 1) 36 (rl none 0 0 none 0 0 0 0 false false).toArray ∧
    wr.ownsRow w.heap.size 87 129 u (keptL (keptOf keep) 0 (d.wait.take k)).length ((keptL (keptOf keep) 0 (d.wait.take k)).flatMap rwc)) (fun _ i _ => d.wait.length - (intOf i).toNat)
  case atStart => exact ⟨0, _, by omega, rfl, rfl, hb1.out, B0.out, B1.out, by simp [keptL], .inl ⟨rfl, rfl⟩⟩
  case round =>
    obtain ⟨k, v, hk, rfl, rfl, hb, b0, b1, hrow⟩ := hrel
    by_cases hlt : k < d.wait.length
    · obtain ⟨ad, x, rfl, hadb, hx, hc⟩ := reads_at rwc_len (H.out.wait.below hb) hlt
      have hkm := keptL_snoc (keptOf keep) x (d.wait.take k) 0
      rw [← take_snoc_any hx, List.length_take, Nat.min_eq_left hk, Nat.zero_add] at hkm
      have hkl := keptL_len (keptOf keep) (d.wait.take k) 0
      rw [List.length_take, Nat.min_eq_left hk] at hkl
      have q1 : wr.cell? ⟨w.heap.size, 1, none⟩ = some (.slice (some ad) d.wait.length cw) := b0.cell 1
      have hskip : keptOf keep k = false → wr.ownsRow w.heap.size 87 129 v (keptL (keptOf keep) 0 (d.wait.take (k + 1))).length ((keptL (keptOf keep) 0 (d.wait.take (k + 1))).flatMap rwc) := fun h => by
        rw [hkm, h]; simpa using hrow
      have HSK := Lib.hid hskip
      have HKM := Lib.hid hkm
      have HB := Lib.hid hb
      have HB0 := Lib.hid b0
      have HB1 := Lib.hid b1
      have HR := Lib.hid hrow
      have HC := Lib.hid hc
      by_cases hkk : k < keep.length
      · obtain ⟨adk, u, rfl, -, hu', hcu⟩ := (HK.out.below hb).at_ hkk
        have hub : u = .bool keep[k] := by simpa [flags, hkk] using hu'.symm
        subst hub
        have hd1 : decide ((k : Int) < (keep.length : Int)) = true := by simpa using hkk
        have hkx : (k : Int) < (keep.length : Int) := by omega
        have hkd : (k : Int) < (d.wait.length : Int) := by omega
        clear hb b0 b1 hrow hskip hkm hc hx
        cases hkb : keep[k] with
        | false =>
          have hko : keptOf keep k = false := by simp [keptOf, hkk, hkb]
          rw [hkb] at hcu
          clear hkb
          go_wp2
          go_roundw
          case rel => exact ⟨k + 1, _, by omega, by go_num, rfl, HB.out, HB0.out, HB1.out, HSK.out hko⟩
          case measure => simp [intOf]; omega
        | true =>
          have hko : keptOf keep k = true := by simp [keptOf, hkk, hkb]
          rw [hkb] at hcu
          clear hkb
          have hc' : ∀ j v, (rwc x)[j]? = some v → wr.cell? ((ad.add (k * 129)).add j) = some v := fun j v hj => by rw [add_of_add]; exact HC.out j v hj
          have hi : (Try.prog.info? 87).map (·.size) = some (rwc x).length := by rw [rwc_len]; exact rwrite_size
          go_wp2_with (first
            | (refine wpList_load_at rfl 87 (.tmp 28) rfl _ rfl (rwc x) _ hc' hu2 rfl hi ?_)
            | (refine wpList_slice_rwrite rfl (.tmp 29) rfl x rfl ?_)
            | (at_builtin; refine wpList_append_any _ rfl (.tmp 24) (.tmp 30) _ rfl w.heap.size 87 i0 _ 129 136 Try.underlying34 hi0 hz0 hz1 hz2 (by simp [Value.cells, rwc_len]) (by omega) v _ _ rfl (HR.out.alloc _) (wr.heap.size + 1) (some ⟨wr.heap.size, 0, none⟩) 1 1 (rwc x) rfl (Reads.newN wr (rwc x) 1 129 _ _ (by simp [rwc_len])) (rwc_one x) (by simp only [maxLen]; omega) (by omega) (by have := HB.out.size; simp; omega) ?_; intro v2 w2 hown hgrow hat))
          go_roundw
          case rel =>
            have e0 := own_blk_ne HR.out HB0.out (by decide)
            have e1 := own_blk_ne HR.out HB1.out (by decide)
            refine ⟨k + 1, _, by omega, by go_num, rfl, ?_, (HB0.out.alloc _).grown hgrow (Ne.symm e0), (HB1.out.alloc _).grown hgrow (Ne.symm e1), ?_⟩
            · exact (HB.out.alloc HB.out.size _).grown hgrow (by have := HB.out.size; simp; omega) (fun g hg => (World.ownsRow.lt HR.out g hg).1)
            · rw [HKM.out, if_pos hko, List.length_append, List.flatMap_append]
              simpa using hown
          case measure => simp [intOf]; omega
      · have hd1 : decide ((k : Int) < (keep.length : Int)) = false := by simp; omega
        have hko : keptOf keep k = false := by simp [keptOf, hkk]
        clear hb b0 b1 hrow hskip hkm hc hx
        go_wp2
        go_roundw
        case rel => exact ⟨k + 1, _, by omega, by go_num, rfl, HB.out, HB0.out, HB1.out, HSK.out hko⟩
        case measure => simp [intOf]; omega
    · rw [List.take_of_length_le (by omega)] at hrow
      have hin : ∀ x ∈ keptL (keptOf keep) 0 d.wait, 0 ≤ x.1 ∧ x.1 < d.n := fun x hx => H.out.in_ x (keptL_mem _ _ _ x hx)
      have hkl := keptL_len (keptOf keep) d.wait 0
      have hst : settled (fun _ => true) 0 (keptL (keptOf keep) 0 d.wait) d.sure = (d.crash keep).sure := settled_kept _ _ _ _ _
      have HST := Lib.hid hst
      generalize keptL (keptOf keep) 0 d.wait = L at *
      obtain ⟨Ak, mk, rfl⟩ : ∃ Ak mk, v = .slice Ak L.length mk := by
        rcases hrow.2 with ⟨rfl, hn⟩ | ⟨g', cap, cur, rfl, _⟩
        · rw [hn]; exact ⟨_, _, rfl⟩
        · exact ⟨_, _, rfl⟩
      have hRL := Reads.of_own hrow
      have R2 := (H.out.below hb).more hb.size
      have q0 : wr.cell? ⟨w.heap.size, 0, none⟩ = some (.slice AA d.n c) := b0.cell 0
      have q1 : wr.cell? ⟨w.heap.size, 1, none⟩ = some (.slice AW d.wait.length cw) := b0.cell 1
      clear hst hrow HK
      go_wp2_with fail
      refine (rdone_any AA d.n c Ak mk d.sure L wr H.out.small (by omega) R2.secs hRL hin).mono ?_
      rintro e w3 ⟨v, rfl, hown, b3⟩
      obtain ⟨Ao, co, rfl⟩ : ∃ Ao co, v = .slice Ao d.n co := by
        rcases hown.2 with ⟨rfl, hn⟩ | ⟨g', cap, cur, rfl, _⟩
        · rw [hn]; exact ⟨_, _, rfl⟩
        · exact ⟨_, _, rfl⟩
      have C0 := b0.below b3 b0.lt
      have C1 := b1.below b3 b1.lt
      have hlt1 := b1.lt
      have hbw3 := hb.trans (b3.mono hb.size)
      clear q0 q1
      have hnot : (w.heap.size + 1) ∉ [w.heap.size] := by simp
      have HR3 := Lib.hid hown
      have HB3 := Lib.hid hbw3
      have C0 := Lib.hid C0
      have C1 := Lib.hid C1
      have hb3s := b3.size
      clear b0 b1 hown hbw3 b3 R2 hRL hin hb
      go_wp2_with (first
        | (refine wpList_set_blk rfl 33 (.tmp 36) (.tmp 35) rfl w.heap.size 0 36 _ (.slice Ao d.n co) rfl rfl C0.out (by simp) (by kernel_rfl) rfl ?_; intro wa hba hoa hsa)
        | (refine wpList_set_blk rfl 34 (.tmp 37) (.const (.slice none 0 0)) rfl w.heap.size 1 36 _ (.slice none 0 0) rfl rfl hba (by simp) (by kernel_rfl) rfl ?_; intro wb hbb hob hsb)
        | (refine wpList_set_blk rfl 4 (.tmp 38) (.const (.bool false)) rfl w.heap.size 4 36 _ (.bool false) rfl rfl hbb (by simp) (by kernel_rfl) rfl ?_; intro wc hbc hoc hsc)
        | (refine wpList_set_blk rfl 4 (.tmp 39) (.const (.bool false)) rfl w.heap.size 5 36 _ (.bool false) rfl rfl hbc (by simp) (by kernel_rfl) rfl ?_; intro wd hbd hod hsd)
        | (refine wpList_load_blk rfl 36 (.tmp 2) rfl w.heap.size (rl Ao d.n co none 0 0 d.steps l false false) _ rfl (by simpa using hbd) hu rfl rdisk_size ?_)
        | (refine wpList_store_blk rfl 36 (.tmp 4) (.tmp 40) rfl (w.heap.size + 1) (rl none 0 0 none 0 0 0 0 false false).toArray (rl Ao d.n co none 0 0 d.steps l false false) rfl rfl ((((C1.out.only hoa hnot).only hob hnot).only hoc hnot).only hod hnot) rfl rdisk_size (rl_one _ _ _ _ _ _ _ _ _ _) ?_; intro w4 hB1 ho4 hs4))
      have HON := Lib.hid (((hoa.trans hob (Fresh.refl _ _)).trans hoc (Fresh.refl _ _)).trans hod (Fresh.refl _ _))
      refine bodyPost_ret (results_cell_row rfl _ _ (w.heap.size + 1) 36 _ (0, 0) _ rfl hB1 hu rfl (by kernel_rfl)) rfl ?_
      have hov : ∀ x, w.heap.size ≤ x → Over w.heap.size [x] := fun x hx k hk => by simp at hk; omega
      have hb4 : Below w.heap.size w w4 := (HB3.out.trans (HON.out.below (hov _ (Nat.le_refl _)) HB3.out.size)).trans (ho4.below (hov _ (by omega)) (Nat.le_trans HB3.out.size HON.out.size))
      have hrow4 : w4.ownsRow wr.heap.size 47 128 (.slice Ao d.n co) d.n _ := row_of HR3.out fun k hk => by
        have h1 := row_over HR3.out k hk
        have h2 := row_under HR3.out k hk
        rw [ho4.block k (Nat.lt_of_lt_of_le h2 HON.out.size) (by simp; omega)]
        exact HON.out.block k h2 (by simp; omega)
      have e1 : (d.crash keep).wait = [] := rfl
      have e2 : (d.crash keep).n = d.n := rfl
      have e3 : (d.crash keep).armed = false := rfl
      have e4 : (d.crash keep).gone = false := rfl
      have e5 : (d.crash keep).steps = d.steps := rfl
      refine ⟨_, rfl, Ao, co, none, 0, l, ?_, ⟨?_, ?_, ?_, ?_⟩, ?_, hb4, own_newer hrow4 (by omega), .inr fun ad h => by cases h⟩
      · simp only [DM.rs, e1, e2, e3, e4, e5]; rfl
      · have := Reads.of_own hrow4
        rw [HST.out] at this
        rw [e2]
        exact this
      · rw [e1]; exact Reads.none_
      · rw [e1]; intro x hx; cases hx
      · rw [e2]; exact H.out.small
      · exact ⟨(fun h => by rw [e3] at h; cases h), HL.out.2⟩
end Go.Proofs.Ytgcghoalepkdfaa
