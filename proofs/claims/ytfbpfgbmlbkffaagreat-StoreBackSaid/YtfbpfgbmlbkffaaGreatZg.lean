/-
  A step on an object that is there. Conditions: the operation lies where it is said to; the step reads as it is said to.
-/
import Derived.Test.YtfbpfgbmlbkffaaGreatZf
import Derived.Lib.SliceRun

namespace Go.Proofs.YtfbpfgbmlbkffaaGreat
open Go.RowKit Go.BigFrame
set_option linter.unusedSimpArgs false
set_option linter.unusedVariables false
set_option maxRecDepth 100000
theorem opt_add_zero (A : Option Addr) : A.map (·.add 0) = A := by cases A <;> simp [Addr.add]
theorem part_bytes {w : World} {B m c : Nat} {D : Option Addr} {d : List Nat} (h : Bytes w B D m d) (hc : m ≤ c) (at_ n : Nat) : ∃ A2, partV D m c at_ n = .slice A2 (partB d at_ n).length (c - partA m at_) ∧ Bytes w B A2 (partB d at_ n).length (partB d at_ n) ∧ ((D = none ∨ 0 < (partB d at_ n).length) → A2 = D.map (·.add (min at_ m))) := by
  have hl := h.len
  have hcut := h.1.cut (k := min at_ m) (cap := c) (by omega) hc
  have hd : (u8s d).drop (min at_ m * 1) = u8s (d.drop (min at_ m)) := by simp [u8s, List.map_drop]
  rw [hd] at hcut
  have hlen : (partB d at_ n).length = min n (m - min at_ m) := by unfold partB; rw [hl]; simp; omega
  have hB1 : Bytes w B (if c = min at_ m then D else D.map (·.add (min at_ m * 1))) (m - min at_ m) (d.drop (min at_ m)) := ⟨hcut, fun b hb => h.2 b (List.mem_of_mem_drop hb)⟩
  have hB2 := hB1.take (k := min n (m - min at_ m)) (by omega)
  have e2 : (d.drop (min at_ m)).take (min n (m - min at_ m)) = partB d at_ n := by unfold partB; rw [hl]
  rw [e2] at hB2
  refine ⟨if c = min at_ m then D else D.map (·.add (min at_ m * 1)), ?_, by rw [hlen]; exact hB2, fun hh => ?_⟩
  · unfold partV partK partA
    rw [opt_add_zero, hlen]
    congr 1
    split <;> rfl
  · rcases hh with rfl | hh
    · simp
    · rw [if_neg (by omega), Nat.mul_one]
theorem clear_own {w : World} {base b n c at_ k : Nat} {R : List Nat} (h : Own w base (.slice (some ⟨b, 0, none⟩) n c) n R) (hk : at_ + k ≤ n) (h0 : 0 < k) :
    ∃ w', (∀ ty cc, (Builtin.clear_ #[22] ty #[.slice (some ⟨b, at_, none⟩) k cc]).run Tryz.prog w = .ok (.tuple #[]) w') ∧ Own w' base (.slice (some ⟨b, 0, none⟩) n c) n (R.take at_ ++ List.replicate k 0 ++ R.drop (at_ + k)) ∧ Only [b] w w' := by
  have hv : ∀ w, (zeroValue 5).run Tryz.prog w = .ok (.int .u8 0) w := fun w => by kernel_rfl
  obtain ⟨cur, hcur, hfit, hown, hon⟩ := own_copy (at_ := at_) (nb := List.replicate k 0) h (by simpa using hk)
  have hu : u8s (List.replicate k 0) = List.replicate k (Value.int .u8 0) := by simp [u8s, u8]
  have hst := run_storeCells_at Tryz.prog b at_ 5 (List.replicate k (Value.int .u8 0)) 0 cur w hcur (by simpa using hfit) (fun u hu => by rw [List.eq_of_mem_replicate hu]; rfl)
  rw [hu] at hown hon
  simp only [List.length_replicate] at hown hon hst
  refine ⟨_, fun ty cc => ?_, hown, hon⟩
  obtain ⟨m, rfl⟩ : ∃ m, k = m + 1 := ⟨k - 1, by omega⟩
  have hz := zero_list (m + 1)
  simp [Builtin.clear_, run_underlying Tryz.underlying22, hv, hz] at hst ⊢
  simp [hst]
theorem write_zero (A2 : Option Addr) (n c2 g : Nat) (hn : n = 0) (at_ : Int) (w : World) : Calls Tryz.prog 106 #[.pointer (some ⟨g, 0, none⟩), .int .i64 at_, .slice A2 n c2] w fun e w' => e = .returned (.tuple #[]) ∧ w = w' := by
  have hkb : ((n : Int) == 0) = true := by simp [hn]
  clear hn
  go_enter Tryz.func106, Tryz.ntmps106
  go_wp2
  refine bodyPost_ret (results_none rfl _ _ _) rfl ?_
  exact ⟨rfl, rfl⟩
theorem writeB_small {d nb : List Nat} {at_ : Nat} (h : Small d) (h' : Small nb) : Small (writeB d at_ nb) := by
  have hz : ∀ n, Small (resizeB d n) := fun n b hb => by
    unfold resizeB at hb
    rcases List.mem_append.1 hb with hb | hb
    · exact h b (List.mem_of_mem_take hb)
    · rw [List.eq_of_mem_replicate hb]; omega
  intro b hb
  unfold writeB at hb
  split at hb
  · exact h b hb
  · rcases List.mem_append.1 hb with hb | hb
    · rcases List.mem_append.1 hb with hb | hb
      · exact hz _ b (List.mem_of_mem_take hb)
      · exact h' b hb
    · exact hz _ b (List.mem_of_mem_drop hb)
theorem resizeB_small {d : List Nat} {n : Nat} (h : Small d) : Small (resizeB d n) := fun b hb => by
  unfold resizeB at hb
  rcases List.mem_append.1 hb with hb | hb
  · exact h b (List.mem_of_mem_take hb)
  · rw [List.eq_of_mem_replicate hb]; omega
theorem zeroB_small {d : List Nat} {at_ n : Nat} (h : Small d) : Small (zeroB d at_ n) := fun b hb => by
  unfold zeroB at hb
  rcases List.mem_append.1 hb with hb | hb
  · rcases List.mem_append.1 hb with hb | hb
    · exact h b (List.mem_of_mem_take hb)
    · rw [List.eq_of_mem_replicate hb]; omega
  · exact h b (List.mem_of_mem_drop hb)
/-- write, as a step -/
theorem wk_write {w : World} {B gw gs c ce ct : Nat} {D E T : Option Addr} {av : Value} {kv : KV} {tv : List Value} {W : Wk} (h : WkAt w B gw gs c ce ct D E T av kv tv W) (hB : B ≤ w.heap.size) (hd : W.d.length ≤ 1000000) {Bx cx at_ : Nat} {Dx : Option Addr} {dt : List Nat} (hx : Bytes w Bx Dx dt.length dt) (hBx : Bx ≤ B) (hat : at_ + dt.length ≤ 1000000) :
    Calls Tryz.prog 106 #[.pointer (some ⟨gw, 0, none⟩), .int .i64 (at_ : Int), .slice Dx dt.length cx] w (fun e w' => StepTo w B gw gs {W with d := writeB W.d at_ dt} (.tuple #[]) e w' ∧ ∀ k cs, Blk w k 59 cs → w'.heap[k]? = w.heap[k]?) := by
  by_cases hl : dt.length = 0
  · have hwb : writeB W.d at_ dt = W.d := by unfold writeB; rw [if_pos hl]
    rw [hwb]
    refine (write_zero Dx dt.length cx gw hl at_ w).mono ?_
    rintro e w' ⟨rfl, rfl⟩
    exact ⟨⟨rfl, ⟨_, _, _, _, _, _, _, _, _, h⟩, Below.refl _ _⟩, fun _ _ _ => rfl⟩
  · have hgB := h.gB
    refine (write_any (nb := dt) (at_ := at_) (c2 := cx) h.blk (by decide) (by rfl) h.dat hB hx (by omega) (fun ad hA => ?_) hat hd).mono ?_
    · obtain ⟨ad', e, hb, _⟩ := hx.1.2 (by omega)
      rw [hA] at e
      injection e with e
      subst e
      refine ⟨by omega, fun hm => ?_⟩
      have := row_over h.dat _ hm
      omega
    · rintro e w' ⟨rfl, D', n', c', hb, ho, hon, hnew⟩
      refine ⟨⟨rfl, h.data hb ho hon hnew (writeB_small h.ok hx.2), hon.below (fun k hk => ?_) hB⟩, fun k cs hk => hon.block k hk.lt fun hm => ?_⟩
      · rcases List.mem_cons.1 hk with rfl | hk
        · exact hgB
        · exact row_over h.dat k hk
      · rcases List.mem_cons.1 hm with rfl | hm
        · exact hk.ne_ h.blk (by decide) rfl
        · obtain ⟨cs', hb'⟩ := typed_of h.dat (mem_rowOf.1 hm)
          exact hk.ne_ hb' (by decide) rfl
/-- resize, as a step -/
theorem wk_resize {w : World} {B gw gs c ce ct : Nat} {D E T : Option Addr} {av : Value} {kv : KV} {tv : List Value} {W : Wk} (h : WkAt w B gw gs c ce ct D E T av kv tv W) (hB : B ≤ w.heap.size) (hd : W.d.length ≤ 1000000) {n : Nat} (hn : n ≤ 1000000) :
    Calls Tryz.prog 108 #[.pointer (some ⟨gw, 0, none⟩), .int .i64 (n : Int)] w (fun e w' => StepTo w B gw gs {W with d := resizeB W.d n} (.tuple #[]) e w' ∧ ∀ k cs, Blk w k 59 cs → w'.heap[k]? = w.heap[k]?) := by
  have hgB := h.gB
  refine (resize_any (n := n) h.blk (by decide) (by rfl) h.dat hB hn hd).mono ?_
  rintro e w' ⟨rfl, D', c', hb, ho, hon, hnew⟩
  refine ⟨⟨rfl, h.data hb ho hon hnew (resizeB_small h.ok), hon.below (fun k hk => ?_) hB⟩, fun k cs hk => hon.block k hk.lt fun hm => ?_⟩
  · rcases List.mem_cons.1 hk with rfl | hk
    · exact hgB
    · exact row_over h.dat k hk
  · rcases List.mem_cons.1 hm with rfl | hm
    · exact hk.ne_ h.blk (by decide) rfl
    · obtain ⟨cs', hb'⟩ := typed_of h.dat (mem_rowOf.1 hm)
      exact hk.ne_ hb' (by decide) rfl
/-- clear of a part, as a step -/
theorem wk_clear {w : World} {B gw gs c ce ct : Nat} {D E T : Option Addr} {av : Value} {kv : KV} {tv : List Value} {W : Wk} (h : WkAt w B gw gs c ce ct D E T av kv tv W) (hB : B ≤ w.heap.size) (at_ n : Nat) :
    ∃ w', (∀ ty, (Builtin.clear_ #[22] ty #[partV D W.d.length c at_ n]).run Tryz.prog w = .ok (.tuple #[]) w') ∧ Wkd w' B gw gs {W with d := zeroB W.d at_ n} ∧ Below B w w' ∧ ∀ k cs, Blk w k 59 cs → w'.heap[k]? = w.heap[k]? := by
  obtain ⟨-, -, hc, hD⟩ := own_len h.dat
  obtain ⟨A2, hp, hb, hA⟩ := part_bytes (h.dat.bytes h.ok) hc at_ n
  have hlen : (partB W.d at_ n).length = min n (W.d.length - min at_ W.d.length) := by unfold partB; simp <;> omega
  by_cases hz : (partB W.d at_ n).length = 0
  · refine ⟨w, fun ty => ?_, ?_, Below.refl _ _, fun _ _ _ => rfl⟩
    · rw [hp, hz]
      cases A2 <;> simp [Builtin.clear_, run_underlying Tryz.underlying22]
    · have : zeroB W.d at_ n = W.d := by
        unfold zeroB
        rw [← hlen, hz]
        simp
      rw [this]
      exact ⟨_, _, _, _, _, _, _, _, _, h⟩
  · obtain ⟨ad, e2, _, _⟩ := hb.1.2 (by omega)
    have hA' := hA (.inr (by omega))
    rw [e2] at hA'
    rcases hD with rfl | ⟨b, rfl⟩
    · cases hA'
    · rw [Option.map_some] at hA'
      injection hA' with hA'
      rw [add_zero_off] at hA'
      subst hA'
      subst e2
      obtain ⟨w', hrun, hown, hon⟩ := clear_own (at_ := min at_ W.d.length) (k := (partB W.d at_ n).length) h.dat (by omega) (by omega)
      have hgb : gw ≠ b := by
        obtain ⟨cs', hb'⟩ := typed_of h.dat (k := b) rfl
        exact h.blk.ne_ hb' (by decide)
      have hzb : W.d.take (min at_ W.d.length) ++ List.replicate (partB W.d at_ n).length 0 ++ W.d.drop (min at_ W.d.length + (partB W.d at_ n).length) = zeroB W.d at_ n := by
        unfold zeroB
        rw [hlen]
      rw [hzb] at hown
      refine ⟨w', fun ty => by rw [hp]; exact hrun ty _, h.data (by rw [set_same (by rfl)]; exact h.blk.of (hon.block _ h.blk.lt (by simpa using hgb))) hown (hon.mono fun k hk => by simp at hk; subst hk; simp [rowOf, Value.ownBlock]) (.inl rfl) (zeroB_small h.ok), hon.below (fun k hk => by simp at hk; subst hk; exact row_over h.dat _ (by simp [rowOf, Value.ownBlock])) hB, fun k cs hk => hon.block k hk.lt fun hm => ?_⟩
      simp at hm
      subst hm
      obtain ⟨cs', hb'⟩ := typed_of h.dat (k := k) rfl
      exact hk.ne_ hb' (by decide) rfl
end Go.Proofs.YtfbpfgbmlbkffaaGreat

/-
  A step on an object that is there: the walk; any step. Conditions: the operation lies where it is said to; the step reads as it is said to.
-/
namespace Go.Proofs.YtfbpfgbmlbkffaaGreat
open Go.RowKit Go.BigFrame
set_option linter.unusedSimpArgs false
set_option linter.unusedVariables false
set_option maxRecDepth 100000
theorem load_step {ops : Array Oper} {rest : List Oper} {op : Oper} {a : Act} {w : World} {Q : Exit → Act → World → Prop} (hgd : op.guard = none) (x : Operand) (ho : op.op = .load 59 x)
    (g : Nat) (s : StepV) (Dx : Option Addr) (cx : Nat) (hx : a.eval x = .pointer (some ⟨g, 0, none⟩)) (hb : Blk w g 59 (stepC s Dx cx)) (h : wpList Tryz.prog ops Q rest (a.put op.dst (stepVal s Dx cx)) w) : wpList Tryz.prog ops Q (op :: rest) a w :=
  wpList_load_mid hgd 59 x ho g 0 hx [.int .i64 s.kd, .int .i64 s.at_, .int .i64 s.ln, .string (strOf s.nm), .slice Dx s.dt.length cx] _ (Blk.range (by simpa [stepC] using hb)) Tryz.underlying59 (by rfl) (by kernel_rfl) h
structure WBd (W : Wk) : Prop where
  d : W.d.length ≤ 65536
  a : W.a.length ≤ 1000000
  t : W.told.length ≤ 1000000
  v : ∀ k bs, gget W.a k = some bs → bs.length ≤ 1000000
set_option maxHeartbeats 8000000 in
theorem inside_any {w : World} {B gw gs c ce ct : Nat} {D E T : Option Addr} {av : Value} {kv : KV} {tv : List Value} {W : Wk} (h : WkAt w B gw gs c ce ct D E T av kv tv W) (hB : B ≤ w.heap.size) (hth : W.th = true) (hbd : WBd W)
    {x : StepV} {Bx cx : Nat} {Dx : Option Addr} (hx : StepIn w x Bx Dx) (hBx : Bx ≤ B) (hk : 8 ≤ x.kd ∧ x.kd ≤ 14) :
    Calls Tryz.prog 82 #[.pointer (some ⟨gw, 0, none⟩), stepVal x Dx cx] w (StepTo w B gw gs (insideW W x).1 (errV (insideW W x).2)) := by
  obtain ⟨w1, hw1⟩ : ∃ w1, w1 = w.alloc (.cells #[.int .i64 x.kd, .int .i64 x.at_, .int .i64 x.ln, .string (strOf x.nm), .slice Dx x.dt.length cx] 59) := ⟨_, rfl⟩
  obtain ⟨g3, hg3⟩ : ∃ g3, g3 = w.heap.size := ⟨_, rfl⟩
  have hb1 : Below w.heap.size w w1 := by rw [hw1]; exact (Below.refl _ _).alloc (Nat.le_refl _) _
  have h1 := h.below hb1
  have K1 : Blk w1 g3 59 (stepC x Dx cx) := by rw [hw1, hg3]; exact Blk.new w _ _
  have hx1 := hx.since hb1
  have hsz1 := hb1.size
  have HW1 := Lib.hid (And.intro hw1 hg3)
  have HB1 := Lib.hid (hb1.mono hB)
  have q0 : w1.cell? ⟨g3, 0, none⟩ = some (.int .i64 x.kd) := K1.cell 0
  have H1 := Lib.hid (And.intro h1 (And.intro hx1 hbd))
  have HTH := Lib.hid hth
  have HC : Hid (∀ w', Blk w' g3 59 (stepC x Dx cx) → w'.cell? ⟨g3, 1, none⟩ = some (.int .i64 x.at_) ∧ w'.cell? ⟨g3, 2, none⟩ = some (.int .i64 x.ln) ∧ w'.cell? ⟨g3, 4, none⟩ = some (.slice Dx x.dt.length cx)) := Lib.hid fun w' h => ⟨h.cell 1, h.cell 2, h.cell 4⟩
  have HCE := Lib.hid (fun (w' : World) (h : Blk w' g3 59 (stepC x Dx cx)) => h.cell 0)
  have hsv : ∀ x : StepV, stepVal x Dx cx = .agg #[.int .i64 x.kd, .int .i64 x.at_, .int .i64 x.ln, .string (strOf x.nm), .slice Dx x.dt.length cx] := fun _ => rfl
  have hBw1 : B ≤ w1.heap.size := by omega
  by_cases hatt : x.kd = 11 ∨ x.kd = 12 ∨ x.kd = 14
  · have HA := Lib.hid (attr_any (cx := cx) h1 hBw1 hth hbd.a hbd.t hbd.v hx1 hatt)
    clear h hx hb1 hw1 hth hg3 h1 hx1 hbd HC
    have hkx : x.kd = 11 ∨ x.kd = 12 ∨ x.kd = 14 := hatt
    clear hatt hk
    rw [hsv]
    generalize hkd : x.kd = kd at *
    have HKD := Lib.hid hkd
    clear hkd
    go_enter Tryz.func82, Tryz.ntmps82
    rcases hkx with rfl | rfl | rfl
    all_goals
      go_wp2_with (first | rw [← HW1.out.1, ← HW1.out.2] | (refine load_step rfl (.tmp 3) rfl g3 x Dx cx rfl K1 ?_))
      refine HA.out.mono ?_
      rintro e w2 ⟨rfl, hw2, hb2⟩
      go_wp2
      go_ret
      exact ⟨rfl, hw2, HB1.out.trans hb2⟩
  · obtain ⟨kd, at_, ln, nm, dt⟩ := x
    dsimp only at *
    have hk' : kd = 8 ∨ kd = 9 ∨ kd = 10 ∨ kd = 13 := by omega
    have HR := Lib.hid (reaches_any kd at_ ln (.string (strOf nm)) Dx dt.length cx hx.dl (by rfl) w1)
    have HNO : Hid (∀ kd, (kd = 8 ∨ kd = 9 ∨ kd = 10 ∨ kd = 13) → reachesB kd at_ ln dt.length = false → insideW W ⟨kd, at_, ln, nm, dt⟩ = (W, 1)) := Lib.hid fun kd hkd hr => by
      rcases hkd with rfl | rfl | rfl | rfl <;> simp [insideW, hr]
    have hi1 := hx.at2
    have hi2 := hx.ln2
    have hi3 := hx.dl
    dsimp only at hi1 hi2 hi3
    clear h hx hb1 hw1 hth hg3 h1 hx1 hbd hk hatt
    unfold stepVal
    dsimp only
    go_enter Tryz.func82, Tryz.ntmps82
    cases hr : reachesB kd at_ ln dt.length
    · rw [hr] at HR
      have HRR := Lib.hid hr
      clear hr HC HCE
      rcases hk' with rfl | rfl | rfl | rfl
      all_goals
        go_wp2_with (first | rw [← HW1.out.1, ← HW1.out.2] | (refine load_step rfl (.tmp 3) rfl g3 _ Dx cx rfl K1 ?_))
        refine HR.out.mono ?_
        rintro e w2 ⟨rfl, hb2⟩
        have HB2 := Lib.hid hb2
        clear hb2
        go_wp2
        go_ret
        rw [HNO.out _ (by simp) HRR.out]
        exact ⟨rfl, ⟨_, _, _, _, _, _, _, _, _, H1.out.1.below HB2.out⟩, HB1.out.trans (HB2.out.mono hBw1)⟩
    · rw [hr] at HR
      have HRR := Lib.hid hr
      clear hr HNO
      rcases hk' with rfl | rfl | rfl | rfl
      · obtain ⟨k, rfl⟩ : ∃ k : Nat, at_ = (k : Int) := ⟨at_.toNat, by have := HRR.out; simp [reachesB] at this; omega⟩
        have hkl : k + dt.length ≤ 65536 := by have := HRR.out; simp [reachesB] at this; omega
        have hin : insideW W ⟨8, (k : Int), ln, nm, dt⟩ = ({W with d := writeB W.d k dt}, 0) := by simp [insideW, HRR.out]
        have HIN := Lib.hid hin
        clear hin
        go_wp2_with (first | rw [← HW1.out.1, ← HW1.out.2] | (refine load_step rfl (.tmp 3) rfl g3 _ Dx cx rfl K1 ?_))
        refine HR.out.mono ?_
        rintro e w2 ⟨rfl, hb2⟩
        have h2 := H1.out.1.below hb2
        have K2 := K1.of (hb2.block _ K1.lt)
        have hbb : Below B w w2 := HB1.out.trans (hb2.mono hBw1)
        have hBw2 : B ≤ w2.heap.size := by have := hb2.size; omega
        have q00 : w2.cell? ⟨g3, 0, none⟩ = some (.int .i64 8) := K2.cell 0
        have HX2 := Lib.hid (H1.out.2.1.since hb2)
        have H2 := Lib.hid h2
        have HBB := Lib.hid hbb
        clear hb2 h2 hbb HR q0
        go_wp2_with fail
        have hS : Blk w2.drew g3 59 (stepC ⟨8, (k : Int), ln, nm, dt⟩ Dx cx) := K2.drew
        refine any_beginL (fun w' => Blk w' g3 59 (stepC ⟨8, (k : Int), ln, nm, dt⟩ Dx cx)) 99 (by kernel_rfl) ?_
        refine S_take (i := 0) (v := .pointer (some ⟨gw, 0, none⟩)) rfl rfl (by kernel_rfl) (by kernel_rfl) (by kernel_rfl) (fun _ _ _ h => h) (Or.inl ⟨by rfl, fun w hw => by kernel_rfl⟩) hS ?_
        simp only [Act.put, List.getElem_toArray, List.getElem_cons_succ, List.getElem_cons_zero, List.setIfInBounds_toArray, List.set_cons_zero, List.set_cons_succ]
        refine S_take (i := 1) (v := .pointer (some ⟨gw, 0, none⟩)) rfl rfl (by kernel_rfl) (by kernel_rfl) (by kernel_rfl) (fun _ _ _ h => h) (Or.inl ⟨by rfl, fun w hw => by kernel_rfl⟩) hS ?_
        simp only [Act.put, List.getElem_toArray, List.getElem_cons_succ, List.getElem_cons_zero, List.setIfInBounds_toArray, List.set_cons_zero, List.set_cons_succ]
        refine S_take (i := 2) (v := .pointer (some ⟨gw, 0, none⟩)) rfl rfl (by kernel_rfl) (by kernel_rfl) (by kernel_rfl) (fun _ _ _ h => h) (Or.inl ⟨by rfl, fun w hw => by go_simp⟩) hS ?_
        simp only [Act.put, List.getElem_toArray, List.getElem_cons_succ, List.getElem_cons_zero, List.setIfInBounds_toArray, List.set_cons_zero, List.set_cons_succ]
        refine S_take (i := 3) (v := .pointer (some ⟨g3, 1, none⟩)) rfl rfl (by kernel_rfl) (by kernel_rfl) (by kernel_rfl) (fun _ _ _ h => h) (Or.inl ⟨by rfl, fun w hw => by go_simp⟩) hS ?_
        simp only [Act.put, List.getElem_toArray, List.getElem_cons_succ, List.getElem_cons_zero, List.setIfInBounds_toArray, List.set_cons_zero, List.set_cons_succ]
        refine S_take (i := 4) (v := .int .i64 (k : Int)) rfl rfl (by kernel_rfl) (by kernel_rfl) (by kernel_rfl) (fun _ _ _ h => h) (Or.inl ⟨by rfl, fun w hw => by have q := (HC.out w hw).1; go_simp⟩) hS ?_
        simp only [Act.put, List.getElem_toArray, List.getElem_cons_succ, List.getElem_cons_zero, List.setIfInBounds_toArray, List.set_cons_zero, List.set_cons_succ]
        refine S_take (i := 5) (v := .pointer (some ⟨g3, 4, none⟩)) rfl rfl (by kernel_rfl) (by kernel_rfl) (by kernel_rfl) (fun _ _ _ h => h) (Or.inl ⟨by rfl, fun w hw => by go_simp⟩) hS ?_
        simp only [Act.put, List.getElem_toArray, List.getElem_cons_succ, List.getElem_cons_zero, List.setIfInBounds_toArray, List.set_cons_zero, List.set_cons_succ]
        refine S_take (i := 6) (v := .slice Dx dt.length cx) rfl rfl (by kernel_rfl) (by kernel_rfl) (by kernel_rfl) (fun _ _ _ h => h) (Or.inl ⟨by rfl, fun w hw => by have q := (HC.out w hw).2.2; go_simp⟩) hS ?_
        simp only [Act.put, List.getElem_toArray, List.getElem_cons_succ, List.getElem_cons_zero, List.setIfInBounds_toArray, List.set_cons_zero, List.set_cons_succ]
        refine L_one (j := 7) (by kernel_rfl) rfl (by rfl) ?_
        simp only [Act.put, List.getElem_toArray, List.getElem_cons_succ, List.getElem_cons_zero, List.setIfInBounds_toArray, List.set_cons_zero, List.set_cons_succ]
        refine wp_called (by kernel_rfl) (wk_write (cx := cx) (H2.out.below (w' := w2.drew) (drawn_below (Below.refl _ _) 1)) hBw2 (by have := H1.out.2.2.d; omega) (dt := dt) (at_ := k) HX2.out.dat.drew hBx (by omega)) ?_
        rintro e w4 ⟨⟨rfl, hw4, hb4⟩, hst4⟩
        have hS4 : Blk w4 g3 59 (stepC ⟨8, (k : Int), ln, nm, dt⟩ Dx cx) := hS.of (hst4 _ _ hS)
        refine ⟨_, rfl, hS4, ?_⟩
        simp only [Act.put, List.getElem_toArray, List.getElem_cons_succ, List.getElem_cons_zero, List.setIfInBounds_toArray, List.set_cons_zero, List.set_cons_succ]
        have hfin : StepTo w B gw gs (insideW W ⟨8, (k : Int), ln, nm, dt⟩).1 (errV (insideW W ⟨8, (k : Int), ln, nm, dt⟩).2) (.returned .nilIface) w4 := by
          rw [HIN.out]
          exact ⟨rfl, hw4, HBB.out.trans (below_drew' hb4)⟩
        clear hw4 hb4 hst4 hS4
        have HFIN := Lib.hid hfin
        clear hfin hS
        refine L_done (by kernel_rfl) ?_
        refine NoPanic.normal ?_
        go_wp2
        go_ret
        exact HFIN.out
      · obtain ⟨k, rfl⟩ : ∃ k : Nat, at_ = (k : Int) := ⟨at_.toNat, by have := HRR.out; simp [reachesB] at this; omega⟩
        obtain ⟨l, rfl⟩ : ∃ l : Nat, ln = (l : Int) := ⟨ln.toNat, by have := HRR.out; simp [reachesB] at this; omega⟩
        have hin : insideW W ⟨9, (k : Int), (l : Int), nm, dt⟩ = ({W with d := zeroB W.d k l}, 0) := by simp [insideW, HRR.out]
        have HIN := Lib.hid hin
        clear hin
        go_wp2_with (first | rw [← HW1.out.1, ← HW1.out.2] | (refine load_step rfl (.tmp 3) rfl g3 _ Dx cx rfl K1 ?_))
        refine HR.out.mono ?_
        rintro e w2 ⟨rfl, hb2⟩
        have h2 := H1.out.1.below hb2
        have K2 := K1.of (hb2.block _ K1.lt)
        have hbb : Below B w w2 := HB1.out.trans (hb2.mono hBw1)
        have hBw2 : B ≤ w2.heap.size := by have := hb2.size; omega
        have q00 : w2.cell? ⟨g3, 0, none⟩ = some (.int .i64 9) := K2.cell 0
        have HX2 := Lib.hid (H1.out.2.1.since hb2)
        have H2 := Lib.hid h2
        have HBB := Lib.hid hbb
        clear hb2 h2 hbb HR q0
        go_wp2_with fail
        have hS : Blk w2.drew g3 59 (stepC ⟨9, (k : Int), (l : Int), nm, dt⟩ Dx cx) := K2.drew
        refine any_beginL (fun w' => Blk w' g3 59 (stepC ⟨9, (k : Int), (l : Int), nm, dt⟩ Dx cx)) 99 (by kernel_rfl) ?_
        refine S_take (i := 0) (v := .pointer (some ⟨gw, 0, none⟩)) rfl rfl (by kernel_rfl) (by kernel_rfl) (by kernel_rfl) (fun _ _ _ h => h) (Or.inl ⟨by rfl, fun w hw => by kernel_rfl⟩) hS ?_
        simp only [Act.put, List.getElem_toArray, List.getElem_cons_succ, List.getElem_cons_zero, List.setIfInBounds_toArray, List.set_cons_zero, List.set_cons_succ]
        refine S_take (i := 1) (v := .pointer (some ⟨gw, 0, none⟩)) rfl rfl (by kernel_rfl) (by kernel_rfl) (by kernel_rfl) (fun _ _ _ h => h) (Or.inl ⟨by rfl, fun w hw => by kernel_rfl⟩) hS ?_
        simp only [Act.put, List.getElem_toArray, List.getElem_cons_succ, List.getElem_cons_zero, List.setIfInBounds_toArray, List.set_cons_zero, List.set_cons_succ]
        refine S_take (i := 2) (v := .pointer (some ⟨gw, 0, none⟩)) rfl rfl (by kernel_rfl) (by kernel_rfl) (by kernel_rfl) (fun _ _ _ h => h) (Or.inl ⟨by rfl, fun w hw => by go_simp⟩) hS ?_
        simp only [Act.put, List.getElem_toArray, List.getElem_cons_succ, List.getElem_cons_zero, List.setIfInBounds_toArray, List.set_cons_zero, List.set_cons_succ]
        refine S_take (i := 3) (v := .pointer (some ⟨g3, 1, none⟩)) rfl rfl (by kernel_rfl) (by kernel_rfl) (by kernel_rfl) (fun _ _ _ h => h) (Or.inl ⟨by rfl, fun w hw => by go_simp⟩) hS ?_
        simp only [Act.put, List.getElem_toArray, List.getElem_cons_succ, List.getElem_cons_zero, List.setIfInBounds_toArray, List.set_cons_zero, List.set_cons_succ]
        refine S_take (i := 4) (v := .int .i64 (k : Int)) rfl rfl (by kernel_rfl) (by kernel_rfl) (by kernel_rfl) (fun _ _ _ h => h) (Or.inl ⟨by rfl, fun w hw => by have q := (HC.out w hw).1; go_simp⟩) hS ?_
        simp only [Act.put, List.getElem_toArray, List.getElem_cons_succ, List.getElem_cons_zero, List.setIfInBounds_toArray, List.set_cons_zero, List.set_cons_succ]
        refine S_take (i := 5) (v := .pointer (some ⟨g3, 2, none⟩)) rfl rfl (by kernel_rfl) (by kernel_rfl) (by kernel_rfl) (fun _ _ _ h => h) (Or.inl ⟨by rfl, fun w hw => by go_simp⟩) hS ?_
        simp only [Act.put, List.getElem_toArray, List.getElem_cons_succ, List.getElem_cons_zero, List.setIfInBounds_toArray, List.set_cons_zero, List.set_cons_succ]
        refine S_take (i := 6) (v := .int .i64 (l : Int)) rfl rfl (by kernel_rfl) (by kernel_rfl) (by kernel_rfl) (fun _ _ _ h => h) (Or.inl ⟨by rfl, fun w hw => by have q := (HC.out w hw).2.1; go_simp⟩) hS ?_
        simp only [Act.put, List.getElem_toArray, List.getElem_cons_succ, List.getElem_cons_zero, List.setIfInBounds_toArray, List.set_cons_zero, List.set_cons_succ]
        refine L_one (j := 7) (by kernel_rfl) rfl (by rfl) ?_
        simp only [Act.put, List.getElem_toArray, List.getElem_cons_succ, List.getElem_cons_zero, List.setIfInBounds_toArray, List.set_cons_zero, List.set_cons_succ]
        refine wp_called (by kernel_rfl) (part_any (w := w2.drew) (H2.out.blk.drew.cell 0) (own_len H2.out.dat).2.2.1 (by have := H1.out.2.2.d; omega) k l (by omega) (by omega)) ?_
        rintro e w3 ⟨rfl, hb3⟩
        have hb3' : Below w2.heap.size w2 w3 := below_drew' hb3
        have hS3 := hS.of (hb3.block _ hS.lt)
        refine ⟨_, rfl, hS3, ?_⟩
        simp only [Act.put, List.getElem_toArray, List.getElem_cons_succ, List.getElem_cons_zero, List.setIfInBounds_toArray, List.set_cons_zero, List.set_cons_succ]
        obtain ⟨w4, hrun, hw4, hb4, hst4⟩ := wk_clear (H2.out.below hb3') (by have := hb3'.size; omega) k l
        have hS4 : Blk w4 g3 59 (stepC ⟨9, (k : Int), (l : Int), nm, dt⟩ Dx cx) := hS3.of (hst4 _ _ hS3)
        have HRUN := Lib.hid hrun
        refine L_one (j := 8) (by kernel_rfl) rfl (by rfl) ?_
        simp only [Act.put, List.getElem_toArray, List.getElem_cons_succ, List.getElem_cons_zero, List.setIfInBounds_toArray, List.set_cons_zero, List.set_cons_succ]
        refine wp_ran (v := .tuple #[]) (w' := w4) (by have q := HRUN.out; go_simp) ⟨hS4, ?_⟩
        simp only [Act.put, List.getElem_toArray, List.getElem_cons_succ, List.getElem_cons_zero, List.setIfInBounds_toArray, List.set_cons_zero, List.set_cons_succ]
        have hfin : StepTo w B gw gs (insideW W ⟨9, (k : Int), (l : Int), nm, dt⟩).1 (errV (insideW W ⟨9, (k : Int), (l : Int), nm, dt⟩).2) (.returned .nilIface) w4 := by
          rw [HIN.out]
          exact ⟨rfl, hw4, (HBB.out.trans (hb3'.mono hBw2)).trans hb4⟩
        clear hw4 hb4 hst4 hS4 hb3 hb3' hS3 hrun
        have HFIN := Lib.hid hfin
        clear hfin hS
        refine L_done (by kernel_rfl) ?_
        refine NoPanic.normal ?_
        go_wp2
        go_ret
        exact HFIN.out
      · obtain ⟨k, rfl⟩ : ∃ k : Nat, at_ = (k : Int) := ⟨at_.toNat, by have := HRR.out; simp [reachesB] at this; omega⟩
        have hkl : k ≤ 65536 := by have := HRR.out; simp [reachesB] at this; omega
        have hin : insideW W ⟨10, (k : Int), ln, nm, dt⟩ = ({W with d := resizeB W.d k}, 0) := by simp [insideW, HRR.out]
        have HIN := Lib.hid hin
        clear hin
        go_wp2_with (first | rw [← HW1.out.1, ← HW1.out.2] | (refine load_step rfl (.tmp 3) rfl g3 _ Dx cx rfl K1 ?_))
        refine HR.out.mono ?_
        rintro e w2 ⟨rfl, hb2⟩
        have h2 := H1.out.1.below hb2
        have K2 := K1.of (hb2.block _ K1.lt)
        have hbb : Below B w w2 := HB1.out.trans (hb2.mono hBw1)
        have hBw2 : B ≤ w2.heap.size := by have := hb2.size; omega
        have q00 : w2.cell? ⟨g3, 0, none⟩ = some (.int .i64 10) := K2.cell 0
        have HX2 := Lib.hid (H1.out.2.1.since hb2)
        have H2 := Lib.hid h2
        have HBB := Lib.hid hbb
        clear hb2 h2 hbb HR q0
        go_wp2_with fail
        have hS : Blk w2.drew g3 59 (stepC ⟨10, (k : Int), ln, nm, dt⟩ Dx cx) := K2.drew
        refine any_beginL (fun w' => Blk w' g3 59 (stepC ⟨10, (k : Int), ln, nm, dt⟩ Dx cx)) 99 (by kernel_rfl) ?_
        refine S_take (i := 0) (v := .pointer (some ⟨gw, 0, none⟩)) rfl rfl (by kernel_rfl) (by kernel_rfl) (by kernel_rfl) (fun _ _ _ h => h) (Or.inl ⟨by rfl, fun w hw => by kernel_rfl⟩) hS ?_
        simp only [Act.put, List.getElem_toArray, List.getElem_cons_succ, List.getElem_cons_zero, List.setIfInBounds_toArray, List.set_cons_zero, List.set_cons_succ]
        refine S_take (i := 1) (v := .pointer (some ⟨gw, 0, none⟩)) rfl rfl (by kernel_rfl) (by kernel_rfl) (by kernel_rfl) (fun _ _ _ h => h) (Or.inl ⟨by rfl, fun w hw => by kernel_rfl⟩) hS ?_
        simp only [Act.put, List.getElem_toArray, List.getElem_cons_succ, List.getElem_cons_zero, List.setIfInBounds_toArray, List.set_cons_zero, List.set_cons_succ]
        refine S_take (i := 2) (v := .pointer (some ⟨gw, 0, none⟩)) rfl rfl (by kernel_rfl) (by kernel_rfl) (by kernel_rfl) (fun _ _ _ h => h) (Or.inl ⟨by rfl, fun w hw => by go_simp⟩) hS ?_
        simp only [Act.put, List.getElem_toArray, List.getElem_cons_succ, List.getElem_cons_zero, List.setIfInBounds_toArray, List.set_cons_zero, List.set_cons_succ]
        refine S_take (i := 3) (v := .pointer (some ⟨g3, 1, none⟩)) rfl rfl (by kernel_rfl) (by kernel_rfl) (by kernel_rfl) (fun _ _ _ h => h) (Or.inl ⟨by rfl, fun w hw => by go_simp⟩) hS ?_
        simp only [Act.put, List.getElem_toArray, List.getElem_cons_succ, List.getElem_cons_zero, List.setIfInBounds_toArray, List.set_cons_zero, List.set_cons_succ]
        refine S_take (i := 4) (v := .int .i64 (k : Int)) rfl rfl (by kernel_rfl) (by kernel_rfl) (by kernel_rfl) (fun _ _ _ h => h) (Or.inl ⟨by rfl, fun w hw => by have q := (HC.out w hw).1; go_simp⟩) hS ?_
        simp only [Act.put, List.getElem_toArray, List.getElem_cons_succ, List.getElem_cons_zero, List.setIfInBounds_toArray, List.set_cons_zero, List.set_cons_succ]
        refine L_one (j := 5) (by kernel_rfl) rfl (by rfl) ?_
        simp only [Act.put, List.getElem_toArray, List.getElem_cons_succ, List.getElem_cons_zero, List.setIfInBounds_toArray, List.set_cons_zero, List.set_cons_succ]
        refine wp_called (by kernel_rfl) (wk_resize (H2.out.below (w' := w2.drew) (drawn_below (Below.refl _ _) 1)) hBw2 (by have := H1.out.2.2.d; omega) (n := k) (by omega)) ?_
        rintro e w4 ⟨⟨rfl, hw4, hb4⟩, hst4⟩
        have hS4 : Blk w4 g3 59 (stepC ⟨10, (k : Int), ln, nm, dt⟩ Dx cx) := hS.of (hst4 _ _ hS)
        refine ⟨_, rfl, hS4, ?_⟩
        simp only [Act.put, List.getElem_toArray, List.getElem_cons_succ, List.getElem_cons_zero, List.setIfInBounds_toArray, List.set_cons_zero, List.set_cons_succ]
        have hfin : StepTo w B gw gs (insideW W ⟨10, (k : Int), ln, nm, dt⟩).1 (errV (insideW W ⟨10, (k : Int), ln, nm, dt⟩).2) (.returned .nilIface) w4 := by
          rw [HIN.out]
          exact ⟨rfl, hw4, HBB.out.trans (below_drew' hb4)⟩
        clear hw4 hb4 hst4 hS4
        have HFIN := Lib.hid hfin
        clear hfin hS
        refine L_done (by kernel_rfl) ?_
        refine NoPanic.normal ?_
        go_wp2
        go_ret
        exact HFIN.out
      · obtain ⟨k, rfl⟩ : ∃ k : Nat, at_ = (k : Int) := ⟨at_.toNat, by have := HRR.out; simp [reachesB] at this; omega⟩
        obtain ⟨l, rfl⟩ : ∃ l : Nat, ln = (l : Int) := ⟨ln.toNat, by have := HRR.out; simp [reachesB] at this; omega⟩
        have hin : insideW W ⟨13, (k : Int), (l : Int), nm, dt⟩ = ({W with told := W.told ++ [partB W.d k l]}, 0) := by simp [insideW, HRR.out]
        have HIN := Lib.hid hin
        clear hin
        go_wp2_with (first | rw [← HW1.out.1, ← HW1.out.2] | (refine load_step rfl (.tmp 3) rfl g3 _ Dx cx rfl K1 ?_))
        refine HR.out.mono ?_
        rintro e w2 ⟨rfl, hb2⟩
        have h2 := H1.out.1.below hb2
        have K2 := K1.of (hb2.block _ K1.lt)
        have hbb : Below B w w2 := HB1.out.trans (hb2.mono hBw1)
        have hBw2 : B ≤ w2.heap.size := by have := hb2.size; omega
        have q00 : w2.cell? ⟨g3, 0, none⟩ = some (.int .i64 13) := K2.cell 0
        have HX2 := Lib.hid (H1.out.2.1.since hb2)
        have H2 := Lib.hid h2
        have HBB := Lib.hid hbb
        clear hb2 h2 hbb HR q0
        go_wp2_with fail
        have hS : Blk w2.drew g3 59 (stepC ⟨13, (k : Int), (l : Int), nm, dt⟩ Dx cx) := K2.drew
        refine any_beginL (fun w' => Blk w' g3 59 (stepC ⟨13, (k : Int), (l : Int), nm, dt⟩ Dx cx)) 99 (by kernel_rfl) ?_
        refine S_take (i := 0) (v := .pointer (some ⟨gw, 0, none⟩)) rfl rfl (by kernel_rfl) (by kernel_rfl) (by kernel_rfl) (fun _ _ _ h => h) (Or.inl ⟨by rfl, fun w hw => by kernel_rfl⟩) hS ?_
        simp only [Act.put, List.getElem_toArray, List.getElem_cons_succ, List.getElem_cons_zero, List.setIfInBounds_toArray, List.set_cons_zero, List.set_cons_succ]
        refine S_take (i := 1) (v := .pointer (some ⟨gw, 0, none⟩)) rfl rfl (by kernel_rfl) (by kernel_rfl) (by kernel_rfl) (fun _ _ _ h => h) (Or.inl ⟨by rfl, fun w hw => by kernel_rfl⟩) hS ?_
        simp only [Act.put, List.getElem_toArray, List.getElem_cons_succ, List.getElem_cons_zero, List.setIfInBounds_toArray, List.set_cons_zero, List.set_cons_succ]
        refine S_take (i := 2) (v := .pointer (some ⟨gw, 0, none⟩)) rfl rfl (by kernel_rfl) (by kernel_rfl) (by kernel_rfl) (fun _ _ _ h => h) (Or.inl ⟨by rfl, fun w hw => by kernel_rfl⟩) hS ?_
        simp only [Act.put, List.getElem_toArray, List.getElem_cons_succ, List.getElem_cons_zero, List.setIfInBounds_toArray, List.set_cons_zero, List.set_cons_succ]
        refine S_take (i := 3) (v := .pointer (some ⟨gw, 0, none⟩)) rfl rfl (by kernel_rfl) (by kernel_rfl) (by kernel_rfl) (fun _ _ _ h => h) (Or.inl ⟨by rfl, fun w hw => by go_simp⟩) hS ?_
        simp only [Act.put, List.getElem_toArray, List.getElem_cons_succ, List.getElem_cons_zero, List.setIfInBounds_toArray, List.set_cons_zero, List.set_cons_succ]
        refine S_take (i := 4) (v := .pointer (some ⟨g3, 1, none⟩)) rfl rfl (by kernel_rfl) (by kernel_rfl) (by kernel_rfl) (fun _ _ _ h => h) (Or.inl ⟨by rfl, fun w hw => by go_simp⟩) hS ?_
        simp only [Act.put, List.getElem_toArray, List.getElem_cons_succ, List.getElem_cons_zero, List.setIfInBounds_toArray, List.set_cons_zero, List.set_cons_succ]
        refine S_take (i := 5) (v := .int .i64 (k : Int)) rfl rfl (by kernel_rfl) (by kernel_rfl) (by kernel_rfl) (fun _ _ _ h => h) (Or.inl ⟨by rfl, fun w hw => by have q := (HC.out w hw).1; go_simp⟩) hS ?_
        simp only [Act.put, List.getElem_toArray, List.getElem_cons_succ, List.getElem_cons_zero, List.setIfInBounds_toArray, List.set_cons_zero, List.set_cons_succ]
        refine S_take (i := 6) (v := .pointer (some ⟨g3, 2, none⟩)) rfl rfl (by kernel_rfl) (by kernel_rfl) (by kernel_rfl) (fun _ _ _ h => h) (Or.inl ⟨by rfl, fun w hw => by go_simp⟩) hS ?_
        simp only [Act.put, List.getElem_toArray, List.getElem_cons_succ, List.getElem_cons_zero, List.setIfInBounds_toArray, List.set_cons_zero, List.set_cons_succ]
        refine S_take (i := 7) (v := .int .i64 (l : Int)) rfl rfl (by kernel_rfl) (by kernel_rfl) (by kernel_rfl) (fun _ _ _ h => h) (Or.inl ⟨by rfl, fun w hw => by have q := (HC.out w hw).2.1; go_simp⟩) hS ?_
        simp only [Act.put, List.getElem_toArray, List.getElem_cons_succ, List.getElem_cons_zero, List.setIfInBounds_toArray, List.set_cons_zero, List.set_cons_succ]
        refine L_one (j := 8) (by kernel_rfl) rfl (by rfl) ?_
        simp only [Act.put, List.getElem_toArray, List.getElem_cons_succ, List.getElem_cons_zero, List.setIfInBounds_toArray, List.set_cons_zero, List.set_cons_succ]
        refine wp_called (by kernel_rfl) (part_any (w := w2.drew) (H2.out.blk.drew.cell 0) (own_len H2.out.dat).2.2.1 (by have := H1.out.2.2.d; omega) k l (by omega) (by omega)) ?_
        rintro e w3 ⟨rfl, hb3⟩
        have hb3' : Below w2.heap.size w2 w3 := below_drew' hb3
        have hS3 := hS.of (hb3.block _ hS.lt)
        refine ⟨_, rfl, hS3, ?_⟩
        simp only [Act.put, List.getElem_toArray, List.getElem_cons_succ, List.getElem_cons_zero, List.setIfInBounds_toArray, List.set_cons_zero, List.set_cons_succ]
        have h3 := H2.out.below hb3'
        obtain ⟨A2, hpv, hpb, -⟩ := part_bytes (h3.dat.bytes h3.ok) (own_len h3.dat).2.2.1 k l
        have hpl : (partB W.d k l).length ≤ 1000000 := by have := H1.out.2.2.d; unfold partB; simp <;> omega
        have hT := tell_any (nx := 0) (cx := c - partA W.d.length k) h3 (by have := hb3'.size; omega) H1.out.2.2.t hpb hpl
        rw [← hpv] at hT
        have hT4 := hT
        refine L_one (j := 9) (by kernel_rfl) rfl (by rfl) ?_
        simp only [Act.put, List.getElem_toArray, List.getElem_cons_succ, List.getElem_cons_zero, List.setIfInBounds_toArray, List.set_cons_zero, List.set_cons_succ]
        refine wp_called (by kernel_rfl) hT ?_
        rintro e w4 ⟨⟨rfl, hw4, hb4⟩, hst4⟩
        have hS4 : Blk w4 g3 59 (stepC ⟨13, (k : Int), (l : Int), nm, dt⟩ Dx cx) := hS3.of (hst4 _ _ hS3)
        refine ⟨_, rfl, hS4, ?_⟩
        simp only [Act.put, List.getElem_toArray, List.getElem_cons_succ, List.getElem_cons_zero, List.setIfInBounds_toArray, List.set_cons_zero, List.set_cons_succ]
        have hfin : StepTo w B gw gs (insideW W ⟨13, (k : Int), (l : Int), nm, dt⟩).1 (errV (insideW W ⟨13, (k : Int), (l : Int), nm, dt⟩).2) (.returned .nilIface) w4 := by
          rw [HIN.out]
          exact ⟨rfl, hw4, (HBB.out.trans (hb3'.mono hBw2)).trans hb4⟩
        clear hw4 hb4 hst4 hS4 hb3 hb3' hS3 h3 hpv hpb hpl hT hT4
        have HFIN := Lib.hid hfin
        clear hfin hS
        refine L_done (by kernel_rfl) ?_
        refine NoPanic.normal ?_
        go_wp2
        go_ret
        exact HFIN.out
end Go.Proofs.YtfbpfgbmlbkffaaGreat

/-
  Any step of an operation. Conditions: the operation lies where it is said to; the step reads as it is said to.
-/
namespace Go.Proofs.YtfbpfgbmlbkffaaGreat
open Go.RowKit Go.BigFrame
set_option linter.unusedSimpArgs false
set_option linter.unusedVariables false
set_option maxRecDepth 100000
set_option maxHeartbeats 8000000 in
theorem wdo_any {w : World} {B gw gs c ce ct : Nat} {D E T : Option Addr} {av : Value} {kv : KV} {tv : List Value} {W : Wk} (h : WkAt w B gw gs c ce ct D E T av kv tv W) (hB : B ≤ w.heap.size) (hbd : WBd W)
    {x : StepV} {Bx cx : Nat} {Dx : Option Addr} (hx : StepIn w x Bx Dx) (hBx : Bx ≤ B) {bl : List Bool}
    (hbl : ∀ w', Below w.heap.size w w' → Calls Tryz.prog 37 #[.pointer (some ⟨gs, 0, none⟩), .int .i64 x.at_] w' fun e w'' => e = .returned (.bool (isClientB x.at_ && bl.getD x.at_.toNat false)) ∧ w' = w'') :
    Calls Tryz.prog 44 #[.pointer (some ⟨gw, 0, none⟩), stepVal x Dx cx] w (StepTo w B gw gs (stepW bl W x).1 (errV (stepW bl W x).2)) := by
  obtain ⟨w1, hw1⟩ : ∃ w1, w1 = w.alloc (.cells #[.int .i64 x.kd, .int .i64 x.at_, .int .i64 x.ln, .string (strOf x.nm), .slice Dx x.dt.length cx] 59) := ⟨_, rfl⟩
  obtain ⟨g3, hg3⟩ : ∃ g3, g3 = w.heap.size := ⟨_, rfl⟩
  have hb1 : Below w.heap.size w w1 := by rw [hw1]; exact (Below.refl _ _).alloc (Nat.le_refl _) _
  have h1 := h.below hb1
  have K1 : Blk w1 g3 59 (stepC x Dx cx) := by rw [hw1, hg3]; exact Blk.new w _ _
  have hx1 := hx.since hb1
  have hsz1 := hb1.size
  have HW1 := Lib.hid (And.intro hw1 hg3)
  have HB1 := Lib.hid (hb1.mono hB)
  have q0 : w1.cell? ⟨g3, 0, none⟩ = some (.int .i64 x.kd) := K1.cell 0
  have q3 : w1.cell? ⟨gw, 3, none⟩ = some (.bool W.th) := h1.blk.cell 3
  have H1 := Lib.hid h1
  have hBw1 : B ≤ w1.heap.size := by omega
  have hsv : stepVal x Dx cx = .agg #[.int .i64 x.kd, .int .i64 x.at_, .int .i64 x.ln, .string (strOf x.nm), .slice Dx x.dt.length cx] := rfl
  have hbl1 : ∀ w', Below w1.heap.size w1 w' → Calls Tryz.prog 37 #[.pointer (some ⟨gs, 0, none⟩), .int .i64 x.at_] w' fun e w'' => e = .returned (.bool (isClientB x.at_ && bl.getD x.at_.toNat false)) ∧ w' = w'' := fun w' hb' => hbl w' (hb1.trans (hb'.mono hb1.size))
  by_cases c1 : 1 ≤ x.kd ∧ x.kd ≤ 5
  · have HN := Lib.hid (need_any (cx := cx) h1 hx1 c1.1 c1.2 hbl1)
    have hst : stepW bl W x = (W, needW bl W x) := by unfold stepW; rw [if_pos c1]
    have HST := Lib.hid hst
    have hkd : x.kd = 1 ∨ x.kd = 2 ∨ x.kd = 3 ∨ x.kd = 4 ∨ x.kd = 5 := by omega
    clear h hx hb1 hw1 hg3 h1 hx1 hbd hbl hbl1 hst c1
    rw [hsv] at HN ⊢
    generalize hke : x.kd = kd at *
    have HKE := Lib.hid hke
    clear hke
    go_enter Tryz.func44, Tryz.ntmps44
    rcases hkd with rfl | rfl | rfl | rfl | rfl
    all_goals
      go_wp2_with fail
      rw [← HW1.out.1]
      refine HN.out.mono ?_
      rintro e w2 ⟨rfl, hb2⟩
      go_wp2
      go_ret
      rw [HST.out]
      exact ⟨rfl, ⟨_, _, _, _, _, _, _, _, _, H1.out.below hb2⟩, HB1.out.trans (hb2.mono hBw1)⟩
  by_cases c6 : x.kd = 6
  · have HN := Lib.hid (become_any h1 hBw1 true)
    have hst : stepW bl W x = (becomeW W true, 0) := by unfold stepW; rw [if_neg c1, if_pos c6]
    have HST := Lib.hid hst
    clear h hx hb1 hw1 hg3 h1 hx1 hbd hbl hbl1 hst c1
    rw [hsv]
    generalize hke : x.kd = kd at *
    clear hke
    subst c6
    go_enter Tryz.func44, Tryz.ntmps44
    go_wp2_with (first | rw [← HW1.out.1, ← HW1.out.2])
    refine HN.out.mono ?_
    rintro e w2 ⟨rfl, hw2, hb2⟩
    go_wp2
    go_ret
    rw [HST.out]
    exact ⟨rfl, hw2, HB1.out.trans hb2⟩
  by_cases c7 : x.kd = 7
  · have HN := Lib.hid (become_any h1 hBw1 false)
    have hst : stepW bl W x = (becomeW W false, 0) := by unfold stepW; rw [if_neg c1, if_neg c6, if_pos c7]
    have HST := Lib.hid hst
    clear h hx hb1 hw1 hg3 h1 hx1 hbd hbl hbl1 hst c1 c6
    rw [hsv]
    generalize hke : x.kd = kd at *
    clear hke
    subst c7
    go_enter Tryz.func44, Tryz.ntmps44
    go_wp2_with (first | rw [← HW1.out.1, ← HW1.out.2])
    refine HN.out.mono ?_
    rintro e w2 ⟨rfl, hw2, hb2⟩
    go_wp2
    go_ret
    rw [HST.out]
    exact ⟨rfl, hw2, HB1.out.trans hb2⟩
  by_cases c8 : 8 ≤ x.kd ∧ x.kd ≤ 14
  · cases hth : W.th
    · have hst : stepW bl W x = (W, 6) := by unfold stepW; rw [if_neg c1, if_neg c6, if_neg c7, if_pos c8, hth]; rfl
      have HST := Lib.hid hst
      rw [hth] at q3
      have q3a := q3
      rw [hw1] at q3a
      have hkd : x.kd = 8 ∨ x.kd = 9 ∨ x.kd = 10 ∨ x.kd = 11 ∨ x.kd = 12 ∨ x.kd = 13 ∨ x.kd = 14 := by omega
      clear h hx hb1 hw1 hg3 h1 hx1 hbd hbl hbl1 hst c1 c6 c7 c8
      rw [hsv]
      generalize hke : x.kd = kd at *
      clear hke
      go_enter Tryz.func44, Tryz.ntmps44
      rcases hkd with rfl | rfl | rfl | rfl | rfl | rfl | rfl
      all_goals
        go_wp2_with (first | rw [← HW1.out.1, ← HW1.out.2])
        go_ret
        rw [HST.out]
        exact ⟨rfl, ⟨_, _, _, _, _, _, _, _, _, H1.out⟩, HB1.out⟩
    · have HN := Lib.hid (inside_any (cx := cx) h1 hBw1 hth hbd hx1 hBx c8)
      have hst : stepW bl W x = insideW W x := by unfold stepW; rw [if_neg c1, if_neg c6, if_neg c7, if_pos c8, hth]; rfl
      have HST := Lib.hid hst
      rw [hth] at q3
      have q3a := q3
      rw [hw1] at q3a
      have hkd : x.kd = 8 ∨ x.kd = 9 ∨ x.kd = 10 ∨ x.kd = 11 ∨ x.kd = 12 ∨ x.kd = 13 ∨ x.kd = 14 := by omega
      clear h hx hb1 hw1 hg3 h1 hx1 hbd hbl hbl1 hst c1 c6 c7 c8
      rw [hsv] at HN ⊢
      generalize hke : x.kd = kd at *
      have HKE := Lib.hid hke
      clear hke
      go_enter Tryz.func44, Tryz.ntmps44
      rcases hkd with rfl | rfl | rfl | rfl | rfl | rfl | rfl
      all_goals
        go_wp2_with fail
        rw [← HW1.out.1]
        refine HN.out.mono ?_
        rintro e w2 ⟨rfl, hw2, hb2⟩
        go_wp2
        go_ret
        rw [HST.out]
        exact ⟨rfl, hw2, HB1.out.trans hb2⟩
  · have hst : stepW bl W x = (W, 2) := by unfold stepW; rw [if_neg c1, if_neg c6, if_neg c7, if_neg c8]
    have HST := Lib.hid hst
    have d1 : (x.kd == 1) = false := beq_eq_false_iff_ne.2 (by omega)
    have d2 : (x.kd == 2) = false := beq_eq_false_iff_ne.2 (by omega)
    have d3 : (x.kd == 3) = false := beq_eq_false_iff_ne.2 (by omega)
    have d4 : (x.kd == 4) = false := beq_eq_false_iff_ne.2 (by omega)
    have d5 : (x.kd == 5) = false := beq_eq_false_iff_ne.2 (by omega)
    have d6 : (x.kd == 6) = false := beq_eq_false_iff_ne.2 (by omega)
    have d7 : (x.kd == 7) = false := beq_eq_false_iff_ne.2 (by omega)
    have d8 : (x.kd == 8) = false := beq_eq_false_iff_ne.2 (by omega)
    have d9 : (x.kd == 9) = false := beq_eq_false_iff_ne.2 (by omega)
    have d10 : (x.kd == 10) = false := beq_eq_false_iff_ne.2 (by omega)
    have d11 : (x.kd == 11) = false := beq_eq_false_iff_ne.2 (by omega)
    have d12 : (x.kd == 12) = false := beq_eq_false_iff_ne.2 (by omega)
    have d13 : (x.kd == 13) = false := beq_eq_false_iff_ne.2 (by omega)
    have d14 : (x.kd == 14) = false := beq_eq_false_iff_ne.2 (by omega)
    clear h hx hb1 hw1 hg3 h1 hx1 hbd hbl hbl1 hst c1 c6 c7 c8
    rw [hsv]
    go_enter Tryz.func44, Tryz.ntmps44
    go_wp2
    go_ret
    rw [HST.out, ← HW1.out.1]
    exact ⟨rfl, ⟨_, _, _, _, _, _, _, _, _, H1.out⟩, HB1.out⟩
end Go.Proofs.YtfbpfgbmlbkffaaGreat

/-
  An operation brings its blocks to what it needs. Conditions: it and the store lie where they are said to; what it gives back is its own.
-/
namespace Go.Proofs.YtfbpfgbmlbkffaaGreat
open Go.RowKit Go.BigFrame
set_option linter.unusedSimpArgs false
set_option linter.unusedVariables false
set_option maxRecDepth 100000
theorem natE_inj_ {a b : List (Nat × Nat)} (h : natE a = natE b) : a = b := by
  unfold natE at h
  exact List.map_inj_right (fun x y e => by
    obtain ⟨x1, x2⟩ := x
    obtain ⟨y1, y2⟩ := y
    simp at e
    simp
    omega) |>.1 h
/-- the blocks of a space -/
def foot (g r : Nat) (fl : List Bool) : List Nat := if fl = [] then [g] else [g, r]
theorem foot_mem {g r k : Nat} {fl : List Bool} (h : k ∈ foot g r fl) : k = g ∨ (fl ≠ [] ∧ k = r) := by
  unfold foot at h
  split at h
  · simp at h; exact .inl h
  · rename_i hf
    simp at h
    rcases h with h | h
    · exact .inl h
    · exact .inr ⟨hf, h⟩
theorem SAt.foot_typed {w : World} {g r c : Nat} {A : Option Addr} {fl : List Bool} {left : Int} (h : SAt w g r A c fl left) {k : Nat} (hk : k ∈ foot g r fl) : ∃ t cs, Blk w k t cs ∧ (t = 134 ∨ t = 4) := by
  rcases foot_mem hk with rfl | ⟨hf, rfl⟩
  · exact ⟨_, _, h.blk, .inl rfl⟩
  · rcases h.row with e | ⟨_, cs, hb, _⟩
    · exact absurd e hf
    · exact ⟨_, cs, hb, .inr rfl⟩
theorem SAt.foot_odd {w : World} {g r c : Nat} {A : Option Addr} {fl : List Bool} {left : Int} (h : SAt w g r A c fl left) {e : TypeId} (h1 : e ≠ 134) (h2 : e ≠ 4) {k : Nat} (hk : k ∈ foot g r fl) : Odd w e k := by
  obtain ⟨t, cs, hb, rfl | rfl⟩ := h.foot_typed hk
  · exact Odd.blk hb h1.symm
  · exact Odd.blk hb h2.symm
theorem SAt.foot_lt {w : World} {g r c : Nat} {A : Option Addr} {fl : List Bool} {left : Int} (h : SAt w g r A c fl left) {k : Nat} (hk : k ∈ foot g r fl) : k < w.heap.size := by
  obtain ⟨t, cs, hb, _⟩ := h.foot_typed hk
  exact hb.lt
theorem only_foot {w w' : World} {g r : Nat} (h : Only [g, w.heap.size] w w') : Only (foot g r []) w w' := ⟨h.os, h.tape, h.output, h.size, fun i hi hn => h.block i hi (by simp [foot] at hn ⊢; omega)⟩
theorem only_foot2 {w w' : World} {g r : Nat} {fl : List Bool} (hf : fl ≠ []) (h : Only [g, r] w w') : Only (foot g r fl) w w' := by unfold foot; rw [if_neg hf]; exact h
theorem SAt.rest {w : World} {g r r' c : Nat} {A : Option Addr} {left : Int} {fl : List Bool} (h : SAt w g r A c fl left) (e : fl = []) : SAt w g r' A c fl left := ⟨h.blk, h.cap, h.lim, .inl e⟩
/-- Take, with its blocks told -/
def TakeF (w : World) (g r c : Nat) (A : Option Addr) (fl : List Bool) (n : Nat) (e : Ending) (w' : World) : Prop :=
  Only (foot g r fl) w w' ∧
  ((cnt fl < n ∧ e = .returned (.tuple #[.slice none 0 0, errV 4]) ∧ SAt w' g r A c fl (cnt fl)) ∨
   (∃ (v : Value) (out : List (Nat × Nat)), n ≤ cnt fl ∧ e = .returned (.tuple #[v, .nilIface]) ∧ OwnE w' w.heap.size v (natE out) ∧ Chosen (hol 0 fl) n out ∧ SAt w' g r A c (setA fl out false) (cnt (setA fl out false))))
theorem take_foot {w : World} {g r c : Nat} {A : Option Addr} {fl : List Bool} (n : Nat) (h : SAt w g r A c fl (cnt fl)) (hgr : g ≠ r) :
    Calls Tryz.prog 112 #[.pointer (some ⟨g, 0, none⟩), .int .i64 n] w (TakeF w g r c A fl n) := by
  by_cases hf : fl = []
  · subst hf
    refine (stake_any (r := w.heap.size) n (h.rest rfl) (by have := h.blk.lt; omega)).mono ?_
    rintro e w' ⟨ho, ⟨h1, _⟩ | ⟨h1, rfl, hs⟩ | ⟨k, v, out, h1, hk, rfl, hv, hc, hs⟩⟩
    · omega
    · exact ⟨only_foot ho, .inl ⟨by omega, rfl, hs.rest rfl⟩⟩
    · obtain rfl : n = k := by omega
      have hk0 : n = 0 := by simp [cnt] at hk; omega
      have : out = [] := by rw [hk0] at hc; exact hc.zero
      subst this
      exact ⟨only_foot ho, .inr ⟨v, [], hk, rfl, hv, hc, hs.rest rfl⟩⟩
  · refine (stake_any n h hgr).mono ?_
    rintro e w' ⟨ho, ⟨h1, _⟩ | ⟨h1, rfl, hs⟩ | ⟨k, v, out, h1, hk, rfl, hv, hc, hs⟩⟩
    · omega
    · exact ⟨only_foot2 hf ho, .inl ⟨by omega, rfl, hs⟩⟩
    · obtain rfl : n = k := by omega
      exact ⟨only_foot2 hf ho, .inr ⟨v, out, hk, rfl, hv, hc, hs⟩⟩
/-- Give of what may be given, with its blocks told -/
theorem give_foot {w : World} {g r c B : Nat} {A : Option Addr} {fl : List Bool} (es : List (Nat × Nat)) (hI : ∀ e ∈ es, 1 ≤ e.2 ∧ e.1 ≤ 65536 ∧ e.2 ≤ 65536) (hok : OkA fl es true) (h : SAt w g r A c fl (cnt fl)) (hgr : g ≠ r) (E : Option Addr) (c' : Nat) (hc' : es.length ≤ c') (hR : ExtR w B E (natE es)) (hB : B ≤ w.heap.size)
    (hfar : ∀ ad, E = some ad → ad.block ∉ foot g r fl) (hle : es.length ≤ 65536) :
    Calls Tryz.prog 110 #[.pointer (some ⟨g, 0, none⟩), .slice E es.length c'] w fun e w' => e = .returned .nilIface ∧ Only (foot g r fl) w w' ∧ SAt w' g r A c (setA fl es true) (cnt (setA fl es true)) := by
  have hturn : TurnOk fl (natE es) true es := ⟨rfl, fun e he => (hI e he).1, hok⟩
  have hI2 : ∀ e ∈ natE es, InI e := fun e he => by
    simp only [natE, List.mem_map] at he
    obtain ⟨q, hq, rfl⟩ := he
    have := hI q hq
    simp only [InI]
    omega
  have hnl : (natE es).length = es.length := natE_len es
  have post : ∀ (r' : Nat), (fl = [] ∨ r' = r) → ∀ e w', TurnTo w g r' c A fl (natE es) true e w' → Only (foot g r fl) w w' → e = .returned .nilIface ∧ Only (foot g r fl) w w' ∧ SAt w' g r A c (setA fl es true) (cnt (setA fl es true)) := by
    rintro r' hr' e w' ⟨ho, ⟨ns, hns, rfl, hs⟩ | ⟨hno, _⟩⟩ hof
    · obtain rfl : ns = es := natE_inj_ (hns.1.symm.trans hturn.1)
      refine ⟨rfl, hof, ?_⟩
      rcases hr' with e | e
      · exact hs.rest (List.eq_nil_of_length_eq_zero (by rw [hok.len, e]; rfl))
      · subst e; exact hs
    · exact absurd hturn (hno _)
  by_cases hf : fl = []
  · obtain ⟨eb, heb⟩ : ∃ eb, ∀ ad, E = some ad → ad.block = eb := by
      cases E with
      | none => exact ⟨0, fun ad e => by cases e⟩
      | some a => exact ⟨a.block, fun ad e => by injection e with e; rw [e]⟩
    have := sgive_any (r := w.heap.size + g + eb + 1) (natE es) hI2 (h.rest hf) (by omega) E c' (by rw [hnl]; exact hc') hR hB (fun ad e => ⟨by have := hfar ad e; simp [foot, hf] at this; exact this, by have := heb ad e; omega⟩) (by rw [hnl]; exact hle)
    rw [hnl] at this
    refine this.mono fun e w' ht => post _ (.inl hf) e w' ht ?_
    subst hf
    exact ⟨ht.1.os, ht.1.tape, ht.1.output, ht.1.size, fun i hi hn => ht.1.block i hi (by simp [foot] at hn ⊢; omega)⟩
  · have := sgive_any (natE es) hI2 h hgr E c' (by rw [hnl]; exact hc') hR hB (fun ad e => by have := hfar ad e; simp [foot, hf] at this; exact this) (by rw [hnl]; exact hle)
    rw [hnl] at this
    exact this.mono fun e w' ht => post _ (.inr rfl) e w' ht (only_foot2 hf ht.1)
theorem natE_app (a b : List (Nat × Nat)) : natE (a ++ b) = natE a ++ natE b := by simp [natE]
/-- what fit comes to -/
def FitTo (w0 w : World) (gw gs ms gp r c : Nat) (A : Option Addr) (bl fl : List Bool) (kvs : KV) (W : Wk) (e : Ending) (w' : World) : Prop :=
  Only (foot gp r fl) w0 w' ∧ w.heap.size ≤ w'.heap.size ∧ ∃ es fl' k, FitR fl W es fl' k ∧ e = .returned (errV k) ∧ StAt w' gs ms gp r c A bl fl' kvs ∧ Wkd w' w0.heap.size gw gs {W with e := es}
/-- its extents are others -/
theorem WkAt.exts {w w' : World} {B gw gs c ce ct : Nat} {D E T : Option Addr} {av : Value} {kv : KV} {tv : List Value} {W : Wk} (h : WkAt w B gw gs c ce ct D E T av kv tv W) {G : List Nat} {E' : Option Addr} {m ce' : Nat} {es : List (Nat × Nat)} (hm : m = es.length)
    (hb : Blk w' gw 101 ((workC D W.d.length c av E W.e.length ce W.th T W.told.length ct gs).setIfInBounds 2 (.slice E' m ce'))) (ho : OwnE w' B (.slice E' m ce') (natE es)) (hon : Only G w w') (hG : ∀ k ∈ G, k < w.heap.size → Odd w 5 k ∧ Odd w 22 k ∧ (∀ mb, av = .map (some mb) → k ≠ mb)) : Wkd w' B gw gs {W with e := es} := by
  subst hm
  have hu : ∀ {base size n : Nat} {e : TypeId} {v : Value} {xs : List Value}, w.ownsRow base e size v n xs → (∀ k ∈ G, k < w.heap.size → Odd w e k) → w'.ownsRow base e size v n xs := fun h1 hx => own_only h1 hon fun k hk hm => by
    obtain ⟨cs, hb⟩ := typed_of h1 (mem_rowOf.1 hk)
    exact hx k hm (row_under h1 k hk) cs hb
  have hrow : ∀ {base : Nat} {F : List Nat} {u : Value} {bs : List Nat}, RowR w base F u bs → RowR w' base F u bs := fun hr => by
    obtain ⟨A, c, e, h1, h2, h3⟩ := hr
    exact ⟨A, c, e, hu h1 fun k hk hl => (hG k hk hl).1, h2, h3⟩
  refine ⟨c, ce', ct, D, E', T, av, kv, tv, ⟨hb, h.gB, hu h.dat fun k hk hl => (hG k hk hl).1, h.ok, ?_, h.att.imp fun a b hr => ⟨hr.1, hrow hr.2⟩, ho, hu h.tol fun k hk hl => (hG k hk hl).2.1, h.els.imp fun a b hr => hrow hr⟩⟩
  rcases h.map with e | ⟨mb, e, h1, h2⟩
  · exact .inl e
  · exact .inr ⟨mb, e, h1, h2.of (hon.block mb h2.lt fun hm => (hG mb hm h2.lt).2.2 mb e rfl)⟩
/-- a store on other flags -/
theorem StAt.turned {w w' : World} {gs ms gp r c : Nat} {A : Option Addr} {bl fl fl' : List Bool} {kv : KV} (h : StAt w gs ms gp r c A bl fl kv) {G : List Nat} (ho : Only G w w') (hs : gs ∉ G) (hm : ms ∉ G) (hsp : SAt w' gp r A c fl' (cnt fl')) : StAt w' gs ms gp r c A bl fl' kv :=
  ⟨h.blk.of (ho.block _ h.blk.lt hs), h.len, h.map.of (ho.block _ h.map.lt hm), hsp, h.ne⟩
set_option maxHeartbeats 8000000 in
theorem fit_any {w0 w : World} {gw gs ms gp r c1 : Nat} {A1 : Option Addr} {bl fl : List Bool} {kvs : KV} {c ce ct : Nat} {D E T : Option Addr} {av : Value} {kv : KV} {tv : List Value} {W : Wk} (h : WkAt w w0.heap.size gw gs c ce ct D E T av kv tv W) (hb0 : Below w0.heap.size w0 w)
    (hst0 : StAt w0 gs ms gp r c1 A1 bl fl kvs) (hd : W.d.length ≤ 65536) (hpos : ∀ e ∈ W.e, 1 ≤ e.2 ∧ e.1 ≤ 65536 ∧ e.2 ≤ 65536) (hle : lens W.e ≤ 65536) (hel : W.e.length ≤ 65536) (hgv : needsB W.d < lens W.e → OkA fl (shedR W.e.reverse (lens W.e - needsB W.d)).2 true ∧ (∀ e ∈ (shedR W.e.reverse (lens W.e - needsB W.d)).2, 1 ≤ e.2 ∧ e.1 ≤ 65536 ∧ e.2 ≤ 65536) ∧ (shedR W.e.reverse (lens W.e - needsB W.d)).2.length ≤ 65536) :
    Calls Tryz.prog 83 #[.pointer (some ⟨gw, 0, none⟩)] w (FitTo w0 w gw gs ms gp r c1 A1 bl fl kvs W) := by
  have hst := hst0.below hb0
  have hs0 := hb0.size
  have hneed : needsB W.d ≤ 4096 := by unfold needsB; omega
  have c5 : w.cell? ⟨gw, 5, none⟩ = some (.pointer (some ⟨gs, 0, none⟩)) := h.blk.cell 5
  have q9 := hst.c9
  have HH := Lib.hid (And.intro h (And.intro hb0 (And.intro hst0 hst)))
  have HP := Lib.hid (And.intro hpos hgv)
  have HHAS : Hid (∀ w', Below w.heap.size w w' → Calls Tryz.prog 90 #[.pointer (some ⟨gw, 0, none⟩)] w' fun e w'' => e = .returned (.int .i64 (lens W.e)) ∧ Below w'.heap.size w' w'') := Lib.hid fun w' hb => by
    have h' := h.below hb
    exact has_any (g := gw) (h'.blk.cell 2) (OwnE.ext (by rw [natE_len]; exact h'.ext)) (Nat.le_refl _) (by omega) (by omega)
  have HNEED : Hid (∀ w', Below w.heap.size w w' → Calls Tryz.prog 91 #[.pointer (some ⟨gw, 0, none⟩)] w' fun e w'' => e = .returned (.int .i64 (needsB W.d : Nat)) ∧ w' = w'') := Lib.hid fun w' hb => needs_any (g := gw) ((h.below hb).blk.cell 0) (by omega)
  have hgl : gp < w0.heap.size := hst0.sp.blk.lt
  clear h hb0 hst0 hst hpos hgv
  go_enter Tryz.func83, Tryz.ntmps83
  go_upto_region 2 with (fail)
  refine any_beginL (fun _ => True) 99 (by kernel_rfl) ?_
  refine S_take (i := 0) (v := .pointer (some ⟨gw, 0, none⟩)) rfl rfl (by kernel_rfl) (by kernel_rfl) (by kernel_rfl) (fun _ _ _ h => h) (Or.inl ⟨by rfl, fun w hw => by kernel_rfl⟩) trivial ?_
  simp only [Act.put, List.getElem_toArray, List.getElem_cons_succ, List.getElem_cons_zero, List.setIfInBounds_toArray, List.set_cons_zero, List.set_cons_succ]
  refine S_take (i := 1) (v := .pointer (some ⟨gw, 0, none⟩)) rfl rfl (by kernel_rfl) (by kernel_rfl) (by kernel_rfl) (fun _ _ _ h => h) (Or.inl ⟨by rfl, fun w hw => by kernel_rfl⟩) trivial ?_
  simp only [Act.put, List.getElem_toArray, List.getElem_cons_succ, List.getElem_cons_zero, List.setIfInBounds_toArray, List.set_cons_zero, List.set_cons_succ]
  refine S_take (i := 2) (v := .pointer (some ⟨gw, 0, none⟩)) rfl rfl (by kernel_rfl) (by kernel_rfl) (by kernel_rfl) (fun _ _ _ h => h) (Or.inl ⟨by rfl, fun w hw => by go_simp⟩) trivial ?_
  simp only [Act.put, List.getElem_toArray, List.getElem_cons_succ, List.getElem_cons_zero, List.setIfInBounds_toArray, List.set_cons_zero, List.set_cons_succ]
  refine S_take (i := 4) (v := .pointer (some ⟨gw, 0, none⟩)) rfl rfl (by kernel_rfl) (by kernel_rfl) (by kernel_rfl) (fun _ _ _ h => h) (Or.inl ⟨by rfl, fun w hw => by kernel_rfl⟩) trivial ?_
  simp only [Act.put, List.getElem_toArray, List.getElem_cons_succ, List.getElem_cons_zero, List.setIfInBounds_toArray, List.set_cons_zero, List.set_cons_succ]
  refine S_take (i := 5) (v := .pointer (some ⟨gw, 0, none⟩)) rfl rfl (by kernel_rfl) (by kernel_rfl) (by kernel_rfl) (fun _ _ _ h => h) (Or.inl ⟨by rfl, fun w hw => by kernel_rfl⟩) trivial ?_
  simp only [Act.put, List.getElem_toArray, List.getElem_cons_succ, List.getElem_cons_zero, List.setIfInBounds_toArray, List.set_cons_zero, List.set_cons_succ]
  refine S_take (i := 6) (v := .pointer (some ⟨gw, 0, none⟩)) rfl rfl (by kernel_rfl) (by kernel_rfl) (by kernel_rfl) (fun _ _ _ h => h) (Or.inl ⟨by rfl, fun w hw => by go_simp⟩) trivial ?_
  simp only [Act.put, List.getElem_toArray, List.getElem_cons_succ, List.getElem_cons_zero, List.setIfInBounds_toArray, List.set_cons_zero, List.set_cons_succ]
  refine L_one (j := 3) (by kernel_rfl) rfl (by rfl) ?_
  simp only [Act.put, List.getElem_toArray, List.getElem_cons_succ, List.getElem_cons_zero, List.setIfInBounds_toArray, List.set_cons_zero, List.set_cons_succ]
  refine wp_called (by kernel_rfl) (HHAS.out w.drew (drawn_below (Below.refl _ _) 1)) ?_
  rintro e w1 ⟨rfl, hb1⟩
  have hb1' : Below w.heap.size w w1 := below_drew' hb1
  refine ⟨_, rfl, trivial, ?_⟩
  simp only [Act.put, List.getElem_toArray, List.getElem_cons_succ, List.getElem_cons_zero, List.setIfInBounds_toArray, List.set_cons_zero, List.set_cons_succ]
  refine L_one (j := 7) (by kernel_rfl) rfl (by rfl) ?_
  simp only [Act.put, List.getElem_toArray, List.getElem_cons_succ, List.getElem_cons_zero, List.setIfInBounds_toArray, List.set_cons_zero, List.set_cons_succ]
  refine wp_called (by kernel_rfl) (HNEED.out w1 hb1') ?_
  rintro e w2 ⟨rfl, rfl⟩
  refine ⟨_, rfl, trivial, ?_⟩
  simp only [Act.put, List.getElem_toArray, List.getElem_cons_succ, List.getElem_cons_zero, List.setIfInBounds_toArray, List.set_cons_zero, List.set_cons_succ]
  have hwr : IntKind.i64.wrap ((lens W.e : Int) - (needsB W.d : Int)) = (lens W.e : Int) - (needsB W.d : Int) := by rw [IntKind.wrap_i64]; omega
  refine L_one (j := 8) (by kernel_rfl) rfl (by rfl) ?_
  simp only [Act.put, List.getElem_toArray, List.getElem_cons_succ, List.getElem_cons_zero, List.setIfInBounds_toArray, List.set_cons_zero, List.set_cons_succ]
  refine wp_ran (v := .int .i64 ((lens W.e : Int) - (needsB W.d : Int))) (w' := w1) (by go_simp) ⟨trivial, ?_⟩
  simp only [Act.put, List.getElem_toArray, List.getElem_cons_succ, List.getElem_cons_zero, List.setIfInBounds_toArray, List.set_cons_zero, List.set_cons_succ]
  refine L_one (j := 9) (by kernel_rfl) rfl (by rfl) ?_
  simp only [Act.put, List.getElem_toArray, List.getElem_cons_succ, List.getElem_cons_zero, List.setIfInBounds_toArray, List.set_cons_zero, List.set_cons_succ]
  refine wp_ran (v := .int .i64 ((lens W.e : Int) - (needsB W.d : Int))) (w' := w1) (by kernel_rfl) ⟨trivial, ?_⟩
  simp only [Act.put, List.getElem_toArray, List.getElem_cons_succ, List.getElem_cons_zero, List.setIfInBounds_toArray, List.set_cons_zero, List.set_cons_succ]
  refine L_done (by kernel_rfl) ?_
  refine NoPanic.normal ?_
  have HB1 := Lib.hid hb1'
  have h1 := HH.out.1.below hb1'
  have HW1 := Lib.hid h1
  clear hb1 hb1' h1 c5 q9
  by_cases hov : needsB W.d < lens W.e
  -- {A
  · have hd1 : decide ((0 : Int) < (lens W.e : Int) - (needsB W.d : Int)) = true := decide_eq_true (by omega)
    obtain ⟨n, hn⟩ : ∃ n : Nat, n = lens W.e - needsB W.d := ⟨_, rfl⟩
    have hni : (lens W.e : Int) - (needsB W.d : Int) = (n : Int) := by omega
    rw [hni] at hd1 ⊢
    obtain ⟨hok, hfit, hgl2⟩ := HP.out.2 hov
    rw [← hn] at hok hfit hgl2
    have hne : W.e ≠ [] := fun e => by rw [e] at hov; simp [lens] at hov
    obtain ⟨b, rfl⟩ : ∃ b, E = some ⟨b, 0, none⟩ := by
      rcases HW1.out.ext.2 with ⟨e, h0⟩ | ⟨b, cap, cur, e, _⟩
      · rw [natE_len] at h0
        exact absurd (List.eq_nil_of_length_eq_zero h0) hne
      · injection e with e
        exact ⟨b, e⟩
    have HS := Lib.hid (shed_any (n := n) (es := W.e) HW1.out.blk (by decide) (by rfl) HW1.out.ext (fun e he => (HP.out.1 e he).1) (by omega) (fun e he => by have := HP.out.1 e he; omega) (by omega) (by omega))
    have HNN := Lib.hid hn
    have hnb : n ≤ 65536 := by omega
    have hd2 : decide (0 < n) = true := decide_eq_true (by omega)
    have hd3 : 0 < n := by omega
    clear hn hni
    go_wp2_with fail
    refine HS.out.mono ?_
    rintro e w3 ⟨lv, rfl, hk3, ho3, hg3, hon3⟩
    obtain ⟨E3, c3, hlv, hE3⟩ := hg3.form
    rw [natE_len] at hlv
    subst hlv
    have hst1 : StAt w1 gs ms gp r c1 A1 bl fl kvs := HH.out.2.2.2.below HB1.out
    have hlt : gs < w0.heap.size ∧ ms < w0.heap.size := ⟨HH.out.2.2.1.blk.lt, HH.out.2.2.1.map.lt⟩
    have hgwB := HH.out.1.gB
    have hbB : w0.heap.size ≤ b := row_over HW1.out.ext b (by simp [rowOf, Value.ownBlock])
    have hz1 := HB1.out.size
    have hfo : ∀ k ∈ foot gp r fl, k < w0.heap.size := fun k hk => HH.out.2.2.1.sp.foot_lt hk
    have hsp3 : SAt w3 gp r A1 c1 fl (cnt fl) := by
      have hx := hst1.sp
      refine ⟨hx.blk.of (hon3.block _ hx.blk.lt (by simp; omega)), hx.cap, hx.lim, ?_⟩
      by_cases hf : fl = []
      · exact .inl hf
      rcases hx.row with e | ⟨e, cs, hb, hc⟩
      · exact .inl e
      · have := hfo r (by unfold foot; rw [if_neg hf]; simp)
        exact .inr ⟨e, cs, hb.of (hon3.block _ hb.lt (by simp; omega)), hc⟩
    have hext3 : ExtR w3 w3.heap.size E3 (natE (shedR W.e.reverse n).2) := OwnE.ext (by rw [natE_len]; exact hg3)
    have hcap3 : (shedR W.e.reverse n).2.length ≤ c3 := by
      rcases hg3.2 with ⟨e, h0⟩ | ⟨_, _, _, e, _, _, hx, _⟩
      · rw [natE_len] at h0; omega
      · injection e with _ _ e; rw [natE_len] at hx; omega
    have HG := Lib.hid (give_foot (shedR W.e.reverse n).2 hfit hok hsp3 HH.out.2.2.1.ne E3 c3 hcap3 hext3 (Nat.le_refl _) (fun ad hA hm => by have := (hE3 ad hA).1; have := hfo _ hm; omega) hgl2)
    go_wp2_with fail
    refine HG.out.mono ?_
    rintro e w4 ⟨rfl, hon4, hsp4⟩
    have hsl3 := hon3.size
    have hG13 : ∀ k ∈ foot gp r fl ++ [gw, b], k ∈ foot gp r fl ∨ k = gw ∨ k = b := fun k hk => by
      rcases List.mem_append.1 hk with h | h
      · exact .inl h
      · simp at h; exact .inr h
    have hon34 : Only (foot gp r fl ++ [gw, b]) w1 w4 := (hon3.mono (fun k hk => List.mem_append.2 (.inr hk))).trans (hon4.mono (fun k hk => List.mem_append.2 (.inl hk))) (Fresh.refl _ _)
    have hex : ∃ cs, Blk w1 b 81 cs := typed_of HW1.out.ext rfl
    have hfin : FitTo w0 w gw gs ms gp r c1 A1 bl fl kvs W (.returned .nilIface) w4 := by
      refine ⟨?_, ?_, (shedR W.e.reverse n).1.reverse, setA fl (shedR W.e.reverse n).2 true, 0, ?_, rfl, ?_, ?_⟩
      · refine (Only.of_below (HH.out.2.1.trans (HB1.out.mono hs0)) _).trans hon34 (fun k hk => ?_)
        rcases hG13 k hk with h | h | h
        · exact .inl h
        · subst h; exact .inr hgwB
        · subst h; exact .inr hbB
      · have := hon34.size; omega
      · rw [HNN.out]
        exact .give hov
      · refine StAt.turned hst1 hon34 (fun hm => ?_) (fun hm => ?_) hsp4
        · rcases hG13 _ hm with h | h | h
          · exact hst1.sp.foot_odd (by decide) (by decide) h _ hst1.blk
          · omega
          · omega
        · rcases hG13 _ hm with h | h | h
          · obtain ⟨t, cs, hb, _⟩ := hst1.sp.foot_typed h
            exact hst1.map.ne_blk hb rfl
          · omega
          · omega
      · refine HW1.out.exts (G := foot gp r fl ++ [gw, b]) (m := (shedR W.e.reverse n).1.length) (ce' := ce) (E' := some ⟨b, 0, none⟩) (by simp) (hk3.of (hon4.block _ hk3.lt (fun hm => by have := hfo _ hm; omega))) ?_ hon34 (fun k hk hl => ?_)
        · exact row_of ho3 fun k hk => hon4.block k (row_under ho3 k hk) (fun hm => by have := hfo _ hm; have := row_over ho3 k hk; omega)
        · rcases hG13 k hk with h | h | h
          · refine ⟨hst1.sp.foot_odd (by decide) (by decide) h, hst1.sp.foot_odd (by decide) (by decide) h, fun mb hav e => ?_⟩
            rcases HW1.out.map with ⟨e', _⟩ | ⟨mb', e', hmB, _⟩
            · rw [e'] at hav; cases hav
            · rw [e'] at hav; injection hav with hav; injection hav with hav
              have := hfo _ h; omega
          · subst h
            refine ⟨Odd.blk HW1.out.blk (by decide), Odd.blk HW1.out.blk (by decide), fun mb hav e => ?_⟩
            rcases HW1.out.map with ⟨e', _⟩ | ⟨mb', e', hmB, hmm⟩
            · rw [e'] at hav; cases hav
            · rw [e'] at hav; injection hav with hav; injection hav with hav
              subst hav
              exact hmm.ne_blk HW1.out.blk e.symm
          · subst h
            obtain ⟨cs, hb⟩ := hex
            refine ⟨Odd.blk hb (by decide), Odd.blk hb (by decide), fun mb hav e => ?_⟩
            rcases HW1.out.map with ⟨e', _⟩ | ⟨mb', e', hmB, hmm⟩
            · rw [e'] at hav; cases hav
            · rw [e'] at hav; injection hav with hav; injection hav with hav
              subst hav
              exact hmm.ne_blk hb e.symm
    have HFIN := Lib.hid hfin
    clear hfin hon34 hsp4 hon4 hext3 hsp3 hst1 hon3 ho3 hg3 hk3 HG HS
    go_wp2
    go_ret
    exact HFIN.out
  -- A}
  -- {Bq
  · have hd1 : decide ((0 : Int) < (lens W.e : Int) - (needsB W.d : Int)) = false := decide_eq_false (by omega)
    obtain ⟨n, hn⟩ : ∃ n : Nat, n = needsB W.d - lens W.e := ⟨_, rfl⟩
    have hni : (needsB W.d : Int) - (lens W.e : Int) = (n : Int) := by omega
    have hnb : n ≤ 65536 := by omega
    have hwr2 : IntKind.i64.wrap ((needsB W.d : Int) - (lens W.e : Int)) = (n : Int) := by rw [hni, IntKind.wrap_i64]; omega
    have HNN := Lib.hid hn
    clear hn hni
    go_upto_region 5 with (fail)
    refine any_beginL (fun _ => True) 99 (by kernel_rfl) ?_
    refine S_take (i := 0) (v := .pointer (some ⟨gp, 0, none⟩)) rfl rfl (by kernel_rfl) (by kernel_rfl) (by kernel_rfl) (fun _ _ _ h => h) (Or.inl ⟨by rfl, fun w hw => by kernel_rfl⟩) trivial ?_
    simp only [Act.put, List.getElem_toArray, List.getElem_cons_succ, List.getElem_cons_zero, List.setIfInBounds_toArray, List.set_cons_zero, List.set_cons_succ]
    refine S_take (i := 1) (v := .pointer (some ⟨gw, 0, none⟩)) rfl rfl (by kernel_rfl) (by kernel_rfl) (by kernel_rfl) (fun _ _ _ h => h) (Or.inl ⟨by rfl, fun w hw => by kernel_rfl⟩) trivial ?_
    simp only [Act.put, List.getElem_toArray, List.getElem_cons_succ, List.getElem_cons_zero, List.setIfInBounds_toArray, List.set_cons_zero, List.set_cons_succ]
    refine S_take (i := 2) (v := .pointer (some ⟨gw, 0, none⟩)) rfl rfl (by kernel_rfl) (by kernel_rfl) (by kernel_rfl) (fun _ _ _ h => h) (Or.inl ⟨by rfl, fun w hw => by kernel_rfl⟩) trivial ?_
    simp only [Act.put, List.getElem_toArray, List.getElem_cons_succ, List.getElem_cons_zero, List.setIfInBounds_toArray, List.set_cons_zero, List.set_cons_succ]
    refine S_take (i := 3) (v := .pointer (some ⟨gw, 0, none⟩)) rfl rfl (by kernel_rfl) (by kernel_rfl) (by kernel_rfl) (fun _ _ _ h => h) (Or.inl ⟨by rfl, fun w hw => by go_simp⟩) trivial ?_
    simp only [Act.put, List.getElem_toArray, List.getElem_cons_succ, List.getElem_cons_zero, List.setIfInBounds_toArray, List.set_cons_zero, List.set_cons_succ]
    refine S_take (i := 5) (v := .pointer (some ⟨gw, 0, none⟩)) rfl rfl (by kernel_rfl) (by kernel_rfl) (by kernel_rfl) (fun _ _ _ h => h) (Or.inl ⟨by rfl, fun w hw => by kernel_rfl⟩) trivial ?_
    simp only [Act.put, List.getElem_toArray, List.getElem_cons_succ, List.getElem_cons_zero, List.setIfInBounds_toArray, List.set_cons_zero, List.set_cons_succ]
    refine S_take (i := 6) (v := .pointer (some ⟨gw, 0, none⟩)) rfl rfl (by kernel_rfl) (by kernel_rfl) (by kernel_rfl) (fun _ _ _ h => h) (Or.inl ⟨by rfl, fun w hw => by kernel_rfl⟩) trivial ?_
    simp only [Act.put, List.getElem_toArray, List.getElem_cons_succ, List.getElem_cons_zero, List.setIfInBounds_toArray, List.set_cons_zero, List.set_cons_succ]
    refine S_take (i := 7) (v := .pointer (some ⟨gw, 0, none⟩)) rfl rfl (by kernel_rfl) (by kernel_rfl) (by kernel_rfl) (fun _ _ _ h => h) (Or.inl ⟨by rfl, fun w hw => by go_simp⟩) trivial ?_
    simp only [Act.put, List.getElem_toArray, List.getElem_cons_succ, List.getElem_cons_zero, List.setIfInBounds_toArray, List.set_cons_zero, List.set_cons_succ]
    refine L_one (j := 4) (by kernel_rfl) rfl (by rfl) ?_
    simp only [Act.put, List.getElem_toArray, List.getElem_cons_succ, List.getElem_cons_zero, List.setIfInBounds_toArray, List.set_cons_zero, List.set_cons_succ]
    refine wp_called (by kernel_rfl) (HNEED.out w1.drew (drawn_below HB1.out 1)) ?_
    rintro e w2 ⟨rfl, rfl⟩
    refine ⟨_, rfl, trivial, ?_⟩
    simp only [Act.put, List.getElem_toArray, List.getElem_cons_succ, List.getElem_cons_zero, List.setIfInBounds_toArray, List.set_cons_zero, List.set_cons_succ]
    refine L_one (j := 8) (by kernel_rfl) rfl (by rfl) ?_
    simp only [Act.put, List.getElem_toArray, List.getElem_cons_succ, List.getElem_cons_zero, List.setIfInBounds_toArray, List.set_cons_zero, List.set_cons_succ]
    refine wp_called (by kernel_rfl) (HHAS.out w1.drew (drawn_below HB1.out 1)) ?_
    rintro e w2 ⟨rfl, hb2⟩
    have hb2' : Below w.heap.size w w2 := HB1.out.trans ((below_drew' hb2).mono HB1.out.size)
    refine ⟨_, rfl, trivial, ?_⟩
    simp only [Act.put, List.getElem_toArray, List.getElem_cons_succ, List.getElem_cons_zero, List.setIfInBounds_toArray, List.set_cons_zero, List.set_cons_succ]
    refine L_one (j := 9) (by kernel_rfl) rfl (by rfl) ?_
    simp only [Act.put, List.getElem_toArray, List.getElem_cons_succ, List.getElem_cons_zero, List.setIfInBounds_toArray, List.set_cons_zero, List.set_cons_succ]
    refine wp_ran (v := .int .i64 (n : Int)) (w' := w2) (by go_simp) ⟨trivial, ?_⟩
    simp only [Act.put, List.getElem_toArray, List.getElem_cons_succ, List.getElem_cons_zero, List.setIfInBounds_toArray, List.set_cons_zero, List.set_cons_succ]
    refine L_one (j := 10) (by kernel_rfl) rfl (by rfl) ?_
    simp only [Act.put, List.getElem_toArray, List.getElem_cons_succ, List.getElem_cons_zero, List.setIfInBounds_toArray, List.set_cons_zero, List.set_cons_succ]
    have hst2 : StAt w2 gs ms gp r c1 A1 bl fl kvs := HH.out.2.2.2.below hb2'
    have hw2 := HH.out.1.below hb2'
    refine wp_called (by kernel_rfl) (take_foot n hst2.sp hst2.ne) ?_
    rintro e w3 ⟨hon3, hcase⟩
    have hlt : gs < w0.heap.size ∧ ms < w0.heap.size := ⟨HH.out.2.2.1.blk.lt, HH.out.2.2.1.map.lt⟩
    have hgwB := HH.out.1.gB
    have hz2 := hb2'.size
    have hfo : ∀ k ∈ foot gp r fl, k < w0.heap.size := fun k hk => HH.out.2.2.1.sp.foot_lt hk
    have hb02 : Below w0.heap.size w0 w2 := HH.out.2.1.trans (hb2'.mono hs0)
    have hon03 : Only (foot gp r fl) w0 w3 := (Only.of_below hb02 _).trans hon3 (Fresh.refl _ _)
    have hgsf : gs ∉ foot gp r fl := fun hm => hst2.sp.foot_odd (by decide) (by decide) hm _ hst2.blk
    have hmsf : ms ∉ foot gp r fl := fun hm => by
      obtain ⟨t, cs, hb, _⟩ := hst2.sp.foot_typed hm
      exact hst2.map.ne_blk hb rfl
    have hodd : ∀ k ∈ foot gp r fl, k < w2.heap.size → Odd w2 5 k ∧ Odd w2 22 k ∧ (∀ mb, av = .map (some mb) → k ≠ mb) := fun k hk hl => ⟨hst2.sp.foot_odd (by decide) (by decide) hk, hst2.sp.foot_odd (by decide) (by decide) hk, fun mb hav e => by
      rcases hw2.map with ⟨e', _⟩ | ⟨mb', e', hmB, _⟩
      · rw [e'] at hav; cases hav
      · rw [e'] at hav; injection hav with hav; injection hav with hav
        have := hfo _ hk; omega⟩
    have K3 : Blk w3 gw 101 (workC D W.d.length c av E W.e.length ce W.th T W.told.length ct gs) := hw2.blk.of (hon3.block _ hw2.blk.lt (fun hm => by have := hfo _ hm; omega))
    have hE3 : OwnE w3 w0.heap.size (.slice E W.e.length ce) (natE W.e) := row_of hw2.ext fun k hk => hon3.block k (row_under hw2.ext k hk) (fun hm => by have := hfo _ hm; have := row_over hw2.ext k hk; omega)
    rcases hcase with ⟨hbig, rfl, hsp3⟩ | ⟨v, out, hk, rfl, hv, hch, hsp3⟩
    · have hfin : FitTo w0 w gw gs ms gp r c1 A1 bl fl kvs W (.returned (errV 4)) w3 := by
        refine ⟨hon03, by have := hon3.size; omega, W.e, fl, 4, ?_, rfl, StAt.turned hst2 hon3 hgsf hmsf hsp3, ?_⟩
        · exact .full (by omega) (by rw [← HNN.out]; exact hbig)
        · exact hw2.exts (G := foot gp r fl) (m := W.e.length) (ce' := ce) (E' := E) rfl (by rw [set_same (by rfl)]; exact K3) hE3 hon3 hodd
      have HFIN := Lib.hid hfin
      clear hfin hE3 K3 hodd hsp3 hon03 hon3 hst2 hw2 hb02 hb2 hb2'
      refine ⟨_, rfl, trivial, ?_⟩
      simp only [Act.put, List.getElem_toArray, List.getElem_cons_succ, List.getElem_cons_zero, List.setIfInBounds_toArray, List.set_cons_zero, List.set_cons_succ]
      refine L_one (j := 11) (by kernel_rfl) rfl (by rfl) ?_
      simp only [Act.put, List.getElem_toArray, List.getElem_cons_succ, List.getElem_cons_zero, List.setIfInBounds_toArray, List.set_cons_zero, List.set_cons_succ]
      refine wp_ran (v := .tuple #[.slice none 0 0, errV 4]) (w' := w3) (by kernel_rfl) ⟨trivial, ?_⟩
      simp only [Act.put, List.getElem_toArray, List.getElem_cons_succ, List.getElem_cons_zero, List.setIfInBounds_toArray, List.set_cons_zero, List.set_cons_succ]
      refine S_take (i := 12) (v := .slice none 0 0) rfl rfl (by kernel_rfl) (by kernel_rfl) (by kernel_rfl) (fun _ _ _ h => h) (Or.inl ⟨by rfl, fun w hw => by kernel_rfl⟩) trivial ?_
      simp only [Act.put, List.getElem_toArray, List.getElem_cons_succ, List.getElem_cons_zero, List.setIfInBounds_toArray, List.set_cons_zero, List.set_cons_succ]
      refine S_take (i := 13) (v := errV 4) rfl rfl (by kernel_rfl) (by kernel_rfl) (by kernel_rfl) (fun _ _ _ h => h) (Or.inl ⟨by rfl, fun w hw => by kernel_rfl⟩) trivial ?_
      simp only [Act.put, List.getElem_toArray, List.getElem_cons_succ, List.getElem_cons_zero, List.setIfInBounds_toArray, List.set_cons_zero, List.set_cons_succ]
      refine L_one (j := 14) (by kernel_rfl) rfl (by rfl) ?_
      simp only [Act.put, List.getElem_toArray, List.getElem_cons_succ, List.getElem_cons_zero, List.setIfInBounds_toArray, List.set_cons_zero, List.set_cons_succ]
      refine wp_ran (v := .slice none 0 0) (w' := w3) (by kernel_rfl) ⟨trivial, ?_⟩
      simp only [Act.put, List.getElem_toArray, List.getElem_cons_succ, List.getElem_cons_zero, List.setIfInBounds_toArray, List.set_cons_zero, List.set_cons_succ]
      refine L_one (j := 15) (by kernel_rfl) rfl (by rfl) ?_
      simp only [Act.put, List.getElem_toArray, List.getElem_cons_succ, List.getElem_cons_zero, List.setIfInBounds_toArray, List.set_cons_zero, List.set_cons_succ]
      refine wp_ran (v := errV 4) (w' := w3) (by kernel_rfl) ⟨trivial, ?_⟩
      simp only [Act.put, List.getElem_toArray, List.getElem_cons_succ, List.getElem_cons_zero, List.setIfInBounds_toArray, List.set_cons_zero, List.set_cons_succ]
      refine L_done (by kernel_rfl) ?_
      refine NoPanic.normal ?_
      simp only [errV] at HFIN ⊢
      go_wp2
      go_ret
      exact HFIN.out
    · obtain ⟨A4, c4, hvf, hA4⟩ := hv.form
      rw [natE_len] at hvf
      subst hvf
      have hol : out.length ≤ 65536 := by
        have h1 := hch.few.1
        have h2 := hol_few fl
        have h3 := cnt_le fl
        have h4 := hst2.sp.lim
        omega
      have hext3 : ExtR w3 w3.heap.size A4 (natE out) := OwnE.ext (by rw [natE_len]; exact hv)
      have c32 : w3.cell? ⟨gw, 2, none⟩ = some (.slice E W.e.length ce) := K3.cell 2
      have HK3 := Lib.hid (And.intro K3 (And.intro hE3 hext3))
      have HALL := Lib.hid (And.intro hon03 (And.intro hon3 (And.intro hst2 (And.intro hw2 (And.intro hodd (And.intro hsp3 hch))))))
      clear hE3 K3 hodd hsp3 hon03 hon3 hst2 hw2 hb02 hb2 hb2' hext3 hch hv
      refine ⟨_, rfl, trivial, ?_⟩
      simp only [Act.put, List.getElem_toArray, List.getElem_cons_succ, List.getElem_cons_zero, List.setIfInBounds_toArray, List.set_cons_zero, List.set_cons_succ]
      refine L_one (j := 11) (by kernel_rfl) rfl (by rfl) ?_
      simp only [Act.put, List.getElem_toArray, List.getElem_cons_succ, List.getElem_cons_zero, List.setIfInBounds_toArray, List.set_cons_zero, List.set_cons_succ]
      refine wp_ran (v := .tuple #[.slice A4 out.length c4, .nilIface]) (w' := w3) (by kernel_rfl) ⟨trivial, ?_⟩
      simp only [Act.put, List.getElem_toArray, List.getElem_cons_succ, List.getElem_cons_zero, List.setIfInBounds_toArray, List.set_cons_zero, List.set_cons_succ]
      refine S_take (i := 12) (v := .slice A4 out.length c4) rfl rfl (by kernel_rfl) (by kernel_rfl) (by kernel_rfl) (fun _ _ _ h => h) (Or.inl ⟨by rfl, fun w hw => by kernel_rfl⟩) trivial ?_
      simp only [Act.put, List.getElem_toArray, List.getElem_cons_succ, List.getElem_cons_zero, List.setIfInBounds_toArray, List.set_cons_zero, List.set_cons_succ]
      refine S_take (i := 13) (v := .nilIface) rfl rfl (by kernel_rfl) (by kernel_rfl) (by kernel_rfl) (fun _ _ _ h => h) (Or.inl ⟨by rfl, fun w hw => by kernel_rfl⟩) trivial ?_
      simp only [Act.put, List.getElem_toArray, List.getElem_cons_succ, List.getElem_cons_zero, List.setIfInBounds_toArray, List.set_cons_zero, List.set_cons_succ]
      refine L_one (j := 14) (by kernel_rfl) rfl (by rfl) ?_
      simp only [Act.put, List.getElem_toArray, List.getElem_cons_succ, List.getElem_cons_zero, List.setIfInBounds_toArray, List.set_cons_zero, List.set_cons_succ]
      refine wp_ran (v := .slice A4 out.length c4) (w' := w3) (by kernel_rfl) ⟨trivial, ?_⟩
      simp only [Act.put, List.getElem_toArray, List.getElem_cons_succ, List.getElem_cons_zero, List.setIfInBounds_toArray, List.set_cons_zero, List.set_cons_succ]
      refine L_one (j := 15) (by kernel_rfl) rfl (by rfl) ?_
      simp only [Act.put, List.getElem_toArray, List.getElem_cons_succ, List.getElem_cons_zero, List.setIfInBounds_toArray, List.set_cons_zero, List.set_cons_succ]
      refine wp_ran (v := .nilIface) (w' := w3) (by kernel_rfl) ⟨trivial, ?_⟩
      simp only [Act.put, List.getElem_toArray, List.getElem_cons_succ, List.getElem_cons_zero, List.setIfInBounds_toArray, List.set_cons_zero, List.set_cons_succ]
      refine L_done (by kernel_rfl) ?_
      refine NoPanic.normal ?_
      go_wp2_with (first
        | (have _h := c32; refine app_ext (.tmp 54) (.tmp 55) rfl rfl w0.heap.size (.slice E W.e.length ce) (natE W.e) rfl HK3.out.2.1 w3.heap.size A4 out.length c4 (natE out) rfl (natE_len out).symm HK3.out.2.2 (by rw [natE_len]; omega) (by have := HALL.out.2.2.2.1.ext; have := HALL.out.2.1.size; have := HALL.out.1.size; omega) ?_
           clear _h c32
           intro v5 w5 hown5 hg5 hor5
           have hTg : some gw ≠ (Value.slice E W.e.length ce).ownBlock := fun e => by
             obtain ⟨cs, hb⟩ := typed_of HK3.out.2.1 e.symm
             exact HK3.out.1.ne_ hb (by decide) rfl
           have K5 := HK3.out.1.grown hg5 hTg
           obtain ⟨E5, c5, hv5, -⟩ := hown5.form
           obtain ⟨m5, hm5⟩ : ∃ m5, m5 = (natE W.e ++ natE out).length := ⟨_, rfl⟩
           rw [← hm5] at hv5
           have HM5 := Lib.hid hm5
           subst hv5
           clear hm5)
        | (have _h := K5; refine wpList_setb rfl 74 _ _ rfl gw 2 101 _ (.slice E5 m5 c5) rfl rfl K5 (by simp [workC]) (by kernel_rfl) rfl ?_; intro w6 K6 o6 s6; have HK5 := Lib.hid K5; clear _h K5))
      go_ret
      obtain ⟨hon03, hon3, hst2, hw2, hodd, hsp3, hch⟩ := HALL.out
      have hgE : ∀ k ∈ rowOf (.slice E W.e.length ce), w0.heap.size ≤ k := fun k hk => row_over hw2.ext k hk
      have hon5 : Only (rowOf (.slice E W.e.length ce)) w3 w5 := (Only.refl _ _).grown hg5 (fun g hg => .inl (mem_rowOf.2 hg))
      have hon26 : Only (foot gp r fl ++ (gw :: rowOf (.slice E W.e.length ce))) w2 w6 := ((hon3.mono (fun k hk => List.mem_append.2 (.inl hk))).trans (hon5.mono (fun k hk => List.mem_append.2 (.inr (List.mem_cons_of_mem _ hk)))) (Fresh.refl _ _)).trans (o6.mono (fun k hk => by simp at hk; subst hk; simp)) (Fresh.refl _ _)
      have hsplit : ∀ k ∈ foot gp r fl ++ (gw :: rowOf (.slice E W.e.length ce)), k ∈ foot gp r fl ∨ k = gw ∨ k ∈ rowOf (.slice E W.e.length ce) := fun k hk => by
        rcases List.mem_append.1 hk with h | h
        · exact .inl h
        · rcases List.mem_cons.1 h with h | h
          · exact .inr (.inl h)
          · exact .inr (.inr h)
      have hz36 : w3.heap.size ≤ w6.heap.size := by have := hon5.size; have := o6.size; omega
      have hfar6 : ∀ k, k < w0.heap.size → w6.heap[k]? = w3.heap[k]? := fun k hk => by
        have h0 := hon03.size
        have h5 := hon5.size
        rw [o6.block k (by omega) (by simp; omega), hon5.block k (by omega) (fun hm => by have := hgE k hm; omega)]
      have hst6 : StAt w6 gs ms gp r c1 A1 bl (setA fl out false) kvs := by
        refine StAt.turned hst2 hon26 (fun hm => ?_) (fun hm => ?_) ?_
        · rcases hsplit _ hm with h | h | h
          · exact hgsf h
          · omega
          · have := hgE _ h; omega
        · rcases hsplit _ hm with h | h | h
          · exact hmsf h
          · omega
          · have := hgE _ h; omega
        · refine ⟨hsp3.blk.of (hfar6 _ hgl), hsp3.cap, hsp3.lim, ?_⟩
          by_cases hf : fl = []
          · left
            have h0 := (hch.ok (hol_sound fl)).1.len
            exact List.eq_nil_of_length_eq_zero (by rw [h0, hf]; rfl)
          · rcases hsp3.row with e | ⟨e, cs, hb, hc⟩
            · exact .inl e
            · exact .inr ⟨e, cs, hb.of (hfar6 _ (hfo r (by unfold foot; rw [if_neg hf]; simp))), hc⟩
      refine ⟨?_, ?_, W.e ++ out, setA fl out false, 0, ?_, rfl, hst6, ?_⟩
      · refine hon03.trans (F' := gw :: rowOf (.slice E W.e.length ce)) ?_ (fun k hk => ?_)
        · exact (hon5.mono (fun k hk => List.mem_cons_of_mem _ hk)).trans (o6.mono (fun k hk => by simp at hk; subst hk; simp)) (Fresh.refl _ _)
        · rcases List.mem_cons.1 hk with h | h
          · subst h; exact .inr hgwB
          · exact .inr (hgE k h)
      · have := hon03.size
        have := hon3.size
        omega
      · exact .take (by omega) (by rw [← HNN.out]; exact hk) (by rw [← HNN.out]; exact hch)
      · have hext6 : OwnE w6 w0.heap.size (.slice E5 m5 c5) (natE (W.e ++ out)) := by
          rw [natE_app]
          exact own_odd hown5 o6 (fun k hk => by simp at hk; subst hk; exact Odd.blk HK5.out (by decide))
        have hex : ∀ k ∈ rowOf (.slice E W.e.length ce), ∃ cs, Blk w2 k 81 cs := fun k hk => typed_of hw2.ext (mem_rowOf.1 hk)
        refine hw2.exts (G := foot gp r fl ++ (gw :: rowOf (.slice E W.e.length ce))) (m := m5) (by rw [HM5.out]; simp [natE]) K6 hext6 hon26 (fun k hk hl => ?_)
        rcases hsplit k hk with h | h | h
        · exact hodd k h hl
        · subst h
          refine ⟨Odd.blk hw2.blk (by decide), Odd.blk hw2.blk (by decide), fun mb hav e => ?_⟩
          rcases hw2.map with ⟨e', _⟩ | ⟨mb', e', hmB, hmm⟩
          · rw [e'] at hav; cases hav
          · rw [e'] at hav; injection hav with hav; injection hav with hav
            subst hav
            exact hmm.ne_blk hw2.blk e.symm
        · obtain ⟨cs, hb⟩ := hex k h
          refine ⟨Odd.blk hb (by decide), Odd.blk hb (by decide), fun mb hav e => ?_⟩
          rcases hw2.map with ⟨e', _⟩ | ⟨mb', e', hmB, hmm⟩
          · rw [e'] at hav; cases hav
          · rw [e'] at hav; injection hav with hav; injection hav with hav
            subst hav
            exact hmm.ne_blk hb e.symm
  -- Bq}
end Go.Proofs.YtfbpfgbmlbkffaaGreat
