/-
  The plain disk's Flush, Read and Crash. Conditions: the rows read as they are said to; each write's number is a sector's.
-/
import Derived.Test.YtgcghoalepkdfaaRefM
namespace Go.Proofs.Ytgcghoalepkdfaa
open Go.RowKit
set_option linter.unusedSimpArgs false
set_option linter.unusedVariables false
/-- the plain disk that says d -/
structure RefAt (w : World) (B : Nat) (AA : Option Addr) (c : Nat) (AW : Option Addr) (cw : Nat) (d : DM) : Prop where
  secs : Reads w B 128 AA d.n (sixCells (fun i : Nat => d.sure i) d.n)
  wait : Reads w B 129 AW d.wait.length (d.wait.flatMap rwc)
  in_ : ∀ x ∈ d.wait, 0 ≤ x.1 ∧ x.1 < d.n
  small : d.n ≤ 4096
/-- its numbers -/
def DM.rs (d : DM) (l : Nat) : RS := ⟨d.steps, l, d.armed, d.gone⟩
def Left (d : DM) (l : Nat) : Prop := (d.armed = true → l = d.left) ∧ l ≤ 9223372036854775807
/-- a row that was there, or a new one -/
def Newer (w w' : World) (AA AB : Option Addr) : Prop := AB = AA ∨ ∀ ad, AB = some ad → w.heap.size ≤ ad.block ∧ ad.block < w'.heap.size
theorem own_newer {w w' : World} {base n size m c : Nat} {e : TypeId} {A0 AB : Option Addr} {xs : List Value} (h : w'.ownsRow base e size (.slice AB n c) m xs) (hb : w.heap.size ≤ base) : Newer w w' A0 AB := .inr fun ad he => by
  subst he
  have := World.ownsRow.lt h ad.block rfl
  omega
def RTo (w : World) (A0 W0 : Option Addr) (d : DM) (v : Value) (w' : World) : Prop := ∃ AA c AW cw l, v = .agg (rcs AA d.n c AW d.wait.length cw (d.rs l)) ∧ RefAt w' w'.heap.size AA c AW cw d ∧ Left d l ∧ Below w.heap.size w w' ∧ Newer w w' A0 AA ∧ Newer w w' W0 AW
theorem RefAt.below {w w' : World} {B c cw : Nat} {AA AW : Option Addr} {d : DM} (h : RefAt w B AA c AW cw d) (hb : Below B w w') : RefAt w' B AA c AW cw d := ⟨h.1.below hb, h.2.below hb, h.3, h.4⟩
theorem RefAt.more {w : World} {B B' c cw : Nat} {AA AW : Option Addr} {d : DM} (h : RefAt w B AA c AW cw d) (hb : B ≤ B') : RefAt w B' AA c AW cw d := ⟨h.1.more hb, h.2.more hb, h.3, h.4⟩
theorem RefAt.step {w : World} {B c cw : Nat} {AA AW : Option Addr} {d : DM} (h : RefAt w B AA c AW cw d) : RefAt w B AA c AW cw d.step :=
  ⟨by rw [DM.step_n, DM.step_sure]; exact h.1, by rw [DM.step_wait]; exact h.2, by rw [DM.step_n, DM.step_wait]; exact h.3, by rw [DM.step_n]; exact h.4⟩
theorem rs_off {d : DM} {l : Nat} (h : Left d l) : (d.rs l).off = d.off := by
  unfold RS.off DM.off DM.rs
  cases ha : d.armed with
  | false => simp
  | true => have := h.1 ha; simp [this]
theorem rs_step {d : DM} {l : Nat} (h : Left d l) : ∃ l', (d.rs l).step = d.step.rs l' ∧ Left d.step l' := by
  unfold RS.step DM.step
  rw [rs_off h]
  cases d.off with
  | true => exact ⟨l, by simp [DM.rs], by simpa [Left] using h⟩
  | false =>
    refine ⟨if d.armed then l - 1 else l, rfl, ?_⟩
    unfold Left at *
    simp only [Bool.false_eq_true, if_false]
    refine ⟨fun ha => ?_, ?_⟩
    · rw [h.1 ha]
    · split <;> omega
theorem settle_cells (d : DM) : (fun i : Nat => settled (fun _ => true) 0 d.wait d.sure (i : Int)) = fun i : Nat => (d.settle fun _ => true).sure i := rfl
/-! ### a struct that lies in a block known whole -/
theorem wpList_store_blk {P : Program} {ops : Array Oper} {rest : List Oper} {o : Oper} {a : Act} {w : World} {Q : Exit → Act → World → Prop} (hgd : o.guard = none) (ty : TypeId) (x y : Operand) (ho : o.op = .store ty x y)
    (g : Nat) (cs : Array Value) (vs : List Value) (hx : a.eval x = .pointer (some ⟨g, 0, none⟩)) (hy : a.eval y = .agg vs.toArray) (hB : Blk w g ty cs) (hs : vs.length = cs.size) (hi : (P.info? ty).map (·.size) = some vs.length) (h1 : ∀ v ∈ vs, v.oneCell' = true)
    (h : ∀ w', Blk w' g ty vs.toArray → Only [g] w w' → w'.heap.size = w.heap.size → wpList P ops Q rest (a.put o.dst undef) w') : wpList P ops Q (o :: rest) a w :=
  wpList_store_mid hgd ty x y ho g 0 vs.toArray hx hy (hB.there (by simp [hs])) (by simpa using hi) (all_oneCell_toArray h1)
    (h _ (by simpa using hB.over vs hs) ((Only.refl _ _).grown (by simpa using (setCells_grown g vs 0 w).1) (fun k e => .inl (by injection e with e; simp [e]))) (by simpa using (setCells_grown g vs 0 w).2))
theorem wpList_load_blk {P : Program} {ops : Array Oper} {rest : List Oper} {o : Oper} {a : Act} {w : World} {Q : Exit → Act → World → Prop} (hgd : o.guard = none) (ty : TypeId) (x : Operand) (ho : o.op = .load ty x)
    (g : Nat) (cs : List Value) (d : TypeDesc) (hx : a.eval x = .pointer (some ⟨g, 0, none⟩)) (hB : Blk w g ty cs.toArray) (hu : P.underlying ty = some d) (hd : d.isRow = true) (hi : (P.info? ty).map (·.size) = some cs.length)
    (h : wpList P ops Q rest (a.put o.dst (.agg cs.toArray)) w) : wpList P ops Q (o :: rest) a w :=
  wpList_load_mid hgd ty x ho g 0 hx cs d hB.range hu hd hi h
abbrev rl (AA : Option Addr) (n c : Nat) (AW : Option Addr) (m cw : Nat) (s l : Nat) (a g : Bool) : List Value := [.slice AA n c, .slice AW m cw, .int .i64 s, .int .i64 l, .bool a, .bool g]
theorem rl_one (AA : Option Addr) (n c : Nat) (AW : Option Addr) (m cw : Nat) (s l : Nat) (a g : Bool) : ∀ v ∈ rl AA n c AW m cw s l a g, v.oneCell' = true := by
  intro v hv
  simp at hv
  rcases hv with rfl | rfl | rfl | rfl | rfl | rfl <;> rfl
theorem rdisk_size : (Try.prog.info? 36).map (·.size) = some 6 := by kernel_rfl
theorem rstep_to (w : World) (AA : Option Addr) (c : Nat) (AW : Option Addr) (cw : Nat) (d : DM) (l : Nat) (hl : Left d l) (hs : d.steps < 4611686018427387904) (n m : Nat) :
    Calls Try.prog 43 #[.agg (rl AA n c AW m cw d.steps l d.armed d.gone).toArray] w fun e w' => ∃ l', e = .returned (.tuple #[.agg (rl AA n c AW m cw d.step.steps l' d.step.armed d.step.gone).toArray, .bool (!d.off)]) ∧ Left d.step l' ∧ Below w.heap.size w w' := by
  obtain ⟨l', hst, hl'⟩ := rs_step hl
  have := rstep_any AA n c AW m cw (d.rs l) w hs hl.2
  rw [hst, rs_off hl] at this
  exact this.mono fun e w' ⟨h1, h2⟩ => ⟨l', h1, hl', h2⟩
/-- a disk's Flush -/
theorem rflush_any (w : World) (AA : Option Addr) (c : Nat) (AW : Option Addr) (cw : Nat) (d : DM) (l : Nat) (h : RefAt w w.heap.size AA c AW cw d) (hl : Left d l) (hs : d.steps < 4611686018427387904) (hw : d.wait.length ≤ 1000000) :
    Calls Try.prog 30 #[.agg (rl AA d.n c AW d.wait.length cw d.steps l d.armed d.gone).toArray] w fun e w' => ∃ v, e = .returned (.tuple #[v, .int .i64 d.stepErr]) ∧ RTo w AA AW d.flush v w' := by
  have hz : ∀ w, (zeroValue 36).run Try.prog w = .ok (.agg (rl none 0 0 none 0 0 0 0 false false).toArray) w := rdisk_zero
  have hu := Try.underlying36
  have H := Lib.hid h
  have HL := Lib.hid hl
  clear h hl
  go_enter Try.func30, Try.ntmps30
  go_wp2_with fail
  refine (rstep_to _ AA c AW cw d l HL.out hs d.n d.wait.length).mono ?_
  rintro e w1 ⟨l1, rfl, hl1, b1⟩
  have B0 : Blk w1 w.heap.size 36 (rl AA d.n c AW d.wait.length cw d.steps l d.armed d.gone).toArray := ((Blk.new w _ _).alloc _).below b1 (by simp only [World.size_alloc]; omega)
  have B1 : Blk w1 (w.heap.size + 1) 36 (rl none 0 0 none 0 0 0 0 false false).toArray := by
    have := (Blk.new (w.alloc (.cells (rl AA d.n c AW d.wait.length cw d.steps l d.armed d.gone).toArray 36)) 36 (rl none 0 0 none 0 0 0 0 false false).toArray).below b1 (by simp)
    simpa using this
  have bw : Below w.heap.size w w1 := (two_below w _ _).trans (b1.mono (by simp; omega))
  have B0 := Lib.hid B0
  have B1 := Lib.hid B1
  have BW := Lib.hid bw
  have HL1 := Lib.hid hl1
  clear b1 bw hl1
  have hnot : (w.heap.size + 1) ∉ [w.heap.size] := by simp
  cases hoff : d.off with
  | true =>
    have hfl : d.flush = d.step := by simp [DM.flush, hoff]
    have hse : d.stepErr = 3 := by simp [DM.stepErr, hoff]
    have HF := Lib.hid hfl
    have HSE := Lib.hid hse
    clear hfl hse
    go_wp2_with (first
      | (refine wpList_store_blk rfl 36 (.tmp 1) (.tmp 8) rfl w.heap.size _ (rl AA d.n c AW d.wait.length cw d.step.steps l1 d.step.armed d.step.gone) rfl rfl B0.out rfl rdisk_size (rl_one _ _ _ _ _ _ _ _ _ _) ?_; intro w2 hB0 ho2 hs2)
      | (refine wpList_load_blk rfl 36 (.tmp 1) rfl w.heap.size (rl AA d.n c AW d.wait.length cw d.step.steps l1 d.step.armed d.step.gone) _ rfl hB0 hu rfl rdisk_size ?_)
      | (refine wpList_store_blk rfl 36 (.tmp 2) (.tmp 12) rfl (w.heap.size + 1) _ (rl AA d.n c AW d.wait.length cw d.step.steps l1 d.step.armed d.step.gone) rfl rfl (B1.out.of (ho2.block _ B1.out.lt hnot)) rfl rdisk_size (rl_one _ _ _ _ _ _ _ _ _ _) ?_; intro w3 hB1 ho3 hs3))
    refine bodyPost_ret (results_cell_tmp rfl _ _ (w.heap.size + 1) 36 _ (0, 0) _ _ rfl rfl hB1 hu rfl (by kernel_rfl)) rfl ?_
    have hbw : Below w.heap.size w w3 := (BW.out.trans (ho2.below (by intro k hk; simp at hk; omega) BW.out.size)).trans (ho3.below (by intro k hk; simp at hk; omega) (by rw [hs2]; exact BW.out.size))
    refine ⟨_, by rw [HSE.out]; rfl, AA, c, AW, cw, l1, ?_, ?_, ?_, hbw, .inl rfl, .inl rfl⟩
    · rw [HF.out, DM.step_n, DM.step_wait]; rfl
    · rw [HF.out]
      exact ((H.out.below hbw).step).more hbw.size
    · rw [HF.out]; exact HL1.out
  | false =>
    have hfl : d.flush = d.step.settle (fun _ => true) := by simp [DM.flush, hoff]
    have hse : d.stepErr = 0 := by simp [DM.stepErr, hoff]
    have HF := Lib.hid hfl
    have HSE := Lib.hid hse
    clear hfl hse
    go_wp2_with (first
      | (refine wpList_store_blk rfl 36 (.tmp 1) (.tmp 8) rfl w.heap.size _ (rl AA d.n c AW d.wait.length cw d.step.steps l1 d.step.armed d.step.gone) rfl rfl B0.out rfl rdisk_size (rl_one _ _ _ _ _ _ _ _ _ _) ?_; intro w2 hB0 ho2 hs2; have q0 : w2.cell? ⟨w.heap.size, 0, none⟩ = some (.slice AA d.n c) := hB0.cell 0; have q1 : w2.cell? ⟨w.heap.size, 1, none⟩ = some (.slice AW d.wait.length cw) := hB0.cell 1)
      | fail)
    have hbw2 : Below w.heap.size w w2 := BW.out.trans (ho2.below (by intro k hk; simp at hk; omega) BW.out.size)
    have R2 := (H.out.below hbw2).more hbw2.size
    refine (rdone_any AA d.n c AW cw d.sure d.wait w2 R2.small hw R2.secs R2.wait R2.in_).mono ?_
    rintro e w3 ⟨v, rfl, hown, b3⟩
    obtain ⟨Ao, co, rfl⟩ : ∃ Ao co, v = .slice Ao d.n co := by
      rcases hown.2 with ⟨rfl, hn⟩ | ⟨g', cap, cur, rfl, _⟩
      · rw [hn]; exact ⟨_, _, rfl⟩
      · exact ⟨_, _, rfl⟩
    have C0 := hB0.below b3 hB0.lt
    have C1 := (B1.out.of (ho2.block _ B1.out.lt hnot)).below b3 (by have := B1.out.lt; rw [hs2]; exact this)
    have hbw3 := hbw2.trans (b3.mono hbw2.size)
    clear q0 q1
    have q0 : w3.cell? ⟨w.heap.size, 0, none⟩ = some (.slice AA d.n c) := C0.cell 0
    have q1 : w3.cell? ⟨w.heap.size, 1, none⟩ = some (.slice AW d.wait.length cw) := C0.cell 1
    have f0 : w3.frozen? ⟨w.heap.size, 0, none⟩ = false := C0.frozen 0
    have f1 : w3.frozen? ⟨w.heap.size, 1, none⟩ = false := C0.frozen 1
    have E0 : Blk ((w3.setCell ⟨w.heap.size, 0, none⟩ (.slice Ao d.n co)).setCell ⟨w.heap.size, 1, none⟩ (.slice none 0 0)) w.heap.size 36 (rl Ao d.n co none 0 0 d.step.steps l1 d.step.armed d.step.gone).toArray := by
      have := (C0.set_ 0 (.slice Ao d.n co)).set_ 1 (.slice none 0 0)
      simpa using this
    have hon : Only [w.heap.size] w3 ((w3.setCell ⟨w.heap.size, 0, none⟩ (.slice Ao d.n co)).setCell ⟨w.heap.size, 1, none⟩ (.slice none 0 0)) := ((Only.refl _ _).setCell (.inl (by simp)) _).setCell (.inl (by simp)) _
    have E1 := C1.of (hon.block _ C1.lt hnot)
    have E0 := Lib.hid E0
    have E1 := Lib.hid E1
    have HON := Lib.hid hon
    clear C0 C1 hon hB0
    go_wp2_with (first
      | (refine wpList_load_blk rfl 36 (.tmp 1) rfl w.heap.size _ _ rfl E0.out hu rfl rdisk_size ?_)
      | (refine wpList_store_blk rfl 36 (.tmp 2) (.tmp 20) rfl (w.heap.size + 1) _ (rl Ao d.n co none 0 0 d.step.steps l1 d.step.armed d.step.gone) rfl rfl E1.out rfl rdisk_size (rl_one _ _ _ _ _ _ _ _ _ _) ?_; intro w4 hB1 ho4 hs4))
    refine bodyPost_ret (results_cell_tmp rfl _ _ (w.heap.size + 1) 36 _ (0, 0) _ _ rfl rfl hB1 hu rfl (by kernel_rfl)) rfl ?_
    have hov : ∀ x, w.heap.size ≤ x → Over w.heap.size [x] := fun x hx k hk => by simp at hk; omega
    have hb4 : Below w.heap.size w w4 := (hbw3.trans (HON.out.below (hov _ (Nat.le_refl _)) hbw3.size)).trans (ho4.below (hov _ (by omega)) (Nat.le_trans hbw3.size HON.out.size))
    have hlt1 := B1.out.lt
    have hrow4 : w4.ownsRow w2.heap.size 47 128 (.slice Ao d.n co) d.n _ := row_of hown fun k hk => by
      have h1 := row_over hown k hk
      have h2 := row_under hown k hk
      rw [ho4.block k (Nat.lt_of_lt_of_le h2 HON.out.size) (by simp; omega)]
      exact HON.out.block k h2 (by simp; omega)
    refine ⟨_, by rw [HSE.out]; rfl, Ao, co, none, 0, l1, ?_, ?_, ?_, hb4, own_newer hrow4 (by omega), .inr fun ad h => by cases h⟩
    · rw [HF.out]; simp only [DM.settle, DM.step_n]; rfl
    · rw [HF.out]
      refine ⟨?_, ?_, ?_, ?_⟩
      · simp only [DM.settle, DM.step_n, DM.step_wait, DM.step_sure]; exact Reads.of_own hrow4
      · exact Reads.none_
      · intro x hx; cases hx
      · simp only [DM.settle, DM.step_n]; exact H.out.small
    · rw [HF.out]; exact HL1.out
end Go.Proofs.Ytgcghoalepkdfaa
