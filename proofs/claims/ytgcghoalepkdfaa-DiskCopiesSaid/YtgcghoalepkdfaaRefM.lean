/-
  The plain disk's done: the sectors behind writes. Conditions: the rows read as they are said to; each write's number is a sector's.
-/
import Derived.Test.YtgcghoalepkdfaaRefN
import Derived.Test.YtgcghoalepkdfaaRegL
import Derived.Test.YtgcghoalepkdfaaMay
namespace Go.Proofs.Ytgcghoalepkdfaa
open Go.RowKit
set_option linter.unusedSimpArgs false
set_option linter.unusedVariables false
/-- a plain write, as cells -/
def rwc (x : Int × Sec) : List Value := .int .i64 x.1 :: x.2.cs
theorem rwc_len (x : Int × Sec) : (rwc x).length = 129 := by simp [rwc, Sec.cs_len]
theorem rwc_one (x : Int × Sec) : ∀ u ∈ rwc x, u.oneCell' = true := by
  intro u hu
  rcases List.mem_cons.1 hu with rfl | hu
  · rfl
  · exact x.2.one u hu
theorem rwrite_info : (Try.prog.info? 87).map (fun i => (i.zero, i.size, i.bytes)) = some (some (.agg (rwc (0, Sec.zero)).toArray), 129, 136) := by kernel_rfl
theorem rwrite_zero : (Try.prog.info? 87).bind (fun i => i.zero.map fun z => z.cells.size) = some (1 + 128) := by kernel_rfl
theorem rwrite_zero' : (Try.prog.info? 87).bind (fun i => i.zero.map fun z => (i.size, z.cells.size)) = some (129, 129) := by kernel_rfl
theorem rwrite_size : (Try.prog.info? 87).map (·.size) = some 129 := by kernel_rfl
theorem build_rwrite (s : Sec) (i : Int) (w : World) : (Instr.build 87 #[(0, .int .i64 i), (1, .agg s.cs.toArray)]).run Try.prog w = .ok (.agg (rwc (i, s)).toArray) w := by
  have := run_build_two (P := Try.prog) (n0 := 1) (n1 := 128) Try.underlying87 rwrite_zero (by kernel_rfl) (v0 := .int .i64 i) (v1 := .agg s.cs.toArray) rfl (by simp [Value.cells, s.cs_len]) w
  rw [this]
  congr 2
  simp [Value.cells, rwc]
theorem slice_rwrite (x : Int × Sec) (w : World) : (Instr.buildSlice 34 1 #[(0, .agg (rwc x).toArray)]).run Try.prog w = .ok (.slice (some ⟨w.heap.size, 0, none⟩) 1 1) (w.alloc (.cells (rwc x).toArray 87)) :=
  run_buildSlice_one Try.underlying34 rwrite_zero' (by omega) (by omega) (by simp [Value.cells, rwc_len]) w
/-- an element of a row that is read -/
theorem reads_at {α : Type} {f : α → List Value} {size : Nat} (hf : ∀ x, (f x).length = size) {w : World} {B : Nat} {A : Option Addr} {l : List α} (h : Reads w B size A l.length (l.flatMap f)) {k : Nat} (hk : k < l.length) :
    ∃ ad x, A = some ad ∧ ad.block < B ∧ l[k]? = some x ∧ ∀ j u, (f x)[j]? = some u → w.cell? (ad.add (k * size + j)) = some u := by
  obtain ⟨ad, e, hb, hc⟩ := h.2 (by omega)
  have hx : l[k]? = some (l[k]'hk) := List.getElem?_eq_getElem hk
  refine ⟨ad, _, e, hb, hx, fun j u hj => hc _ _ ?_⟩
  have hjs : j < size := by
    rw [← hf (l[k]'hk)]
    exact (List.getElem?_eq_some_iff.1 hj).1
  rw [flat_at f size hf l k j _ hx hjs]
  exact hj
theorem six_flat (f : Nat → Sec) (n : Nat) : sixCells f n = ((List.range n).map f).flatMap Sec.cs := by
  unfold sixCells
  rw [List.flatMap_map]
theorem six_cells_one (f : Nat → Sec) (n : Nat) : ∀ u ∈ sixCells f n, u.oneCell' = true := by
  intro u hu
  obtain ⟨i, _, h⟩ := List.mem_flatMap.1 hu
  exact (f i).one u h
theorem take_put {α : Type} (l : List α) (o N : Nat) (s : List α) (h : o + s.length ≤ N) (hN : N ≤ l.length) : (l.take o ++ s ++ l.drop (o + s.length)).take N = (l.take N).take o ++ s ++ (l.take N).drop (o + s.length) := by
  have hl : (l.take o ++ s).length = o + s.length := by simp; omega
  rw [List.take_take, Nat.min_eq_left (by omega), List.drop_take, List.take_append, List.take_of_length_le (l := l.take o ++ s) (by omega), hl]
/-- a sector of a row of the call's own is written over -/
theorem row_put {w : World} {base g n c : Nat} {e : TypeId} {f : Nat → Sec} (s : Sec) {i : Nat} (h : w.ownsRow base e 128 (.slice (some ⟨g, 0, none⟩) n c) n (sixCells f n)) (hi : i < n) :
    (w.setCells g (i * 128) s.cs).ownsRow base e 128 (.slice (some ⟨g, 0, none⟩) n c) n (sixCells (fun j => if j = i then s else f j) n) := by
  rcases h.2 with ⟨hv, _⟩ | ⟨g', cap, cur, hv, hbg, hg, hnc, hm, hs, ht⟩
  · cases hv
  · injection hv with h1 h2 h3
    injection h1 with h1
    injection h1 with h1 _ _
    subst h1 h3
    have hB : Blk w g e cur.toList.toArray := by unfold Blk; rw [hg]
    have hsz : n * 128 ≤ c * 128 := Nat.mul_le_mul_right _ hnc
    have hin : i * 128 + 128 ≤ n * 128 := by have := Nat.mul_le_mul_right 128 hi; rw [Nat.succ_mul] at this; omega
    have hcl : cur.toList.length = c * 128 := by simpa using hs
    have hset := setCells_any s.cs (i * 128) hB (by rw [Sec.cs_len, hcl]; omega)
    refine ⟨six_len _ _, .inr ⟨g, c, _, rfl, hbg, hset, hnc, hm, ?_, ?_⟩⟩
    · simp [Sec.cs_len, hs]; omega
    · rw [← six_put f s n i hi, ← ht]
      exact take_put _ _ _ _ (by rw [Sec.cs_len]; exact hin) (by rw [hcl]; exact hsz)
theorem row_there {w : World} {base g n c : Nat} {e : TypeId} {xs : List Value} (h : w.ownsRow base e 128 (.slice (some ⟨g, 0, none⟩) n c) n xs) {i : Nat} (hi : i < n) : w.there g (i * 128) 128 := by
  rcases h.2 with ⟨hv, _⟩ | ⟨g', cap, cur, hv, hbg, hg, hnc, hm, hs, ht⟩
  · cases hv
  · injection hv with h1 h2 h3
    injection h1 with h1
    injection h1 with h1 _ _
    subst h1 h3
    have hsz : n * 128 ≤ c * 128 := Nat.mul_le_mul_right _ hnc
    have hin : i * 128 + 128 ≤ n * 128 := by have := Nat.mul_le_mul_right 128 hi; rw [Nat.succ_mul] at this; omega
    exact Blk.there (t := e) (cs := cur) hg (by omega)
theorem row_same_cells {w : World} {base n : Nat} {e : TypeId} {v : Value} {f f' : Nat → Sec} (h : w.ownsRow base e 128 v n (sixCells f n)) (hf : ∀ i, i < n → f' i = f i) : w.ownsRow base e 128 v n (sixCells f' n) := by
  have : sixCells f' n = sixCells f n := by
    unfold sixCells
    have h1 : (List.range n).map (fun i => (f' i).cs) = (List.range n).map (fun i => (f i).cs) := List.map_congr_left fun i hi => by rw [hf i (List.mem_range.1 hi)]
    rw [List.flatMap_def, List.flatMap_def, h1]
  rw [this]
  exact h
theorem add_nought (p : Addr) : p.add 0 = p := by unfold Addr.add; simp
theorem exec_load_at {P : Program} {op : Oper} {a : Act} {w : World} (ty : TypeId) (x : Operand) (ho : op.op = .load ty x)
    (p : Addr) (hx : a.eval x = .pointer (some p)) (cs : List Value) (d : TypeDesc) (hc : ∀ j v, cs[j]? = some v → w.cell? (p.add j) = some v)
    (hu : P.underlying ty = some d) (hd : d.isRow = true) (hi : (P.info? ty).map (·.size) = some cs.length) : (execOp a.eval op).run P w = .ok (.value (.agg cs.toArray)) w := by
  unfold execOp
  simp only [ho, hx, Instr.loadAt, Instr.sureAddr, Sem.run_bind, Sem.run_pure, Result.andThen_ok, run_loadVar_at w p ty cs d hc hu hd hi]
theorem Blk.reads_row {w : World} {base size n : Nat} {e : TypeId} {A : Option Addr} {c : Nat} {xs : List Value} (h : w.ownsRow base e size (.slice A n c) n xs) {B : Nat} (hB : w.heap.size ≤ B) : Reads w B size A n xs := (Reads.of_own h).more hB
set_option maxRecDepth 100000 in
set_option maxHeartbeats 1000000 in
theorem rdone_any (AA : Option Addr) (n c : Nat) (AW : Option Addr) (cw : Nat) (f : Int → Sec) (ws : List (Int × Sec)) (w : World) (hn : n ≤ 4096) (hw : ws.length ≤ 1000000)
    (hA : Reads w w.heap.size 128 AA n (sixCells (fun i : Nat => f i) n)) (hW : Reads w w.heap.size 129 AW ws.length (ws.flatMap rwc)) (hin : ∀ x ∈ ws, 0 ≤ x.1 ∧ x.1 < n) :
    Calls Try.prog 44 #[.slice AA n c, .slice AW ws.length cw] w fun e w' => ∃ v, e = .returned v ∧ w'.ownsRow w.heap.size 47 128 v n (sixCells (fun i : Nat => settled (fun _ => true) 0 ws f i) n) ∧ Below w.heap.size w w' := by
  obtain ⟨i0, hi0, hz0, hz1, hz2⟩ := info_parts sec_info
  have HA := Lib.hid hA
  have HW := Lib.hid hW
  have HIN := Lib.hid hin
  clear hA hW hin
  have hmade : ((w.alloc (.cells #[] 47))).ownsRow w.heap.size 47 128 (.slice (some ⟨w.heap.size, 0, none⟩) 0 0) 0 [] := by
    have := World.ownsRow_made (base := w.heap.size) (e := 47) (size := 128) w #[] 0 (Nat.le_refl _) (by simp [maxLen]) (by simp)
    simpa using this
  go_enter Try.func44, Try.ntmps44
  go_wp2_with (at_builtin; refine wpList_append_any _ rfl (.tmp 7) (.tmp 8) _ rfl w.heap.size 47 i0 _ 128 128 Try.underlying33 hi0 hz0 hz1 hz2 (by simp [Sec.v, Value.cells, Sec.cs_len]) (by omega) (.slice (some ⟨w.heap.size, 0, none⟩) 0 0) 0 [] rfl hmade w.heap.size AA n c (sixCells (fun i : Nat => f i) n) rfl (HA.out.alloc (Nat.le_refl _) _) (six_cells_one _ _) (by simp only [maxLen]; omega) (by omega) (by simp) ?_; intro v1 w1 hown hgrow hat)
  have b1 : Below w.heap.size w w1 := (((Below.refl w.heap.size w).alloc (Nat.le_refl _) _).grown hgrow (by simp) (fun g hg => by simp [Value.ownBlock] at hg; omega))
  simp only [Nat.zero_add, List.nil_append] at hown
  have Hown := Lib.hid hown
  have B1 := Lib.hid b1
  clear hown hgrow hat b1 hmade hi0 hz0 hz1 hz2
  obtain ⟨Ao, co, rfl⟩ : ∃ Ao co, v1 = .slice Ao n co := by
    rcases Hown.out.2 with ⟨rfl, hn⟩ | ⟨g', cap, cur, rfl, _⟩
    · rw [hn]; exact ⟨_, _, rfl⟩
    · exact ⟨_, _, rfl⟩
  go_loopw [6] (fun i wr => ∃ k : Nat, k ≤ ws.length ∧ i = .int .i64 k ∧ Below w.heap.size w wr ∧ wr.ownsRow w.heap.size 47 128 (.slice Ao n co) n (sixCells (fun i : Nat => settled (fun _ => true) 0 (ws.take k) f i) n)) (fun i _ => ws.length - (intOf i).toNat)
  case atStart => exact ⟨0, by omega, rfl, B1.out, by simpa [settled] using Hown.out⟩
  case round =>
    obtain ⟨k, hk, rfl, hb, hrow⟩ := hrel
    by_cases hlt : k < ws.length
    · obtain ⟨ad, x, rfl, hadb, hx, hc⟩ := reads_at rwc_len (HW.out.below hb) hlt
      obtain ⟨hx0, hxn⟩ := HIN.out x (List.mem_of_getElem? hx)
      obtain ⟨go, co', hv, hgo, hgl⟩ := hrow.form (by omega)
      injection hv with h1 h2 h3
      subst h1 h3
      obtain ⟨xi, hxi⟩ := Int.eq_ofNat_of_zero_le hx0
      rw [hxi] at hxn
      have hS : wr.drew.cell? ((ad.add (k * 129)).add 0) = some (.int .i64 xi) ∧ ∀ j u, x.2.cs[j]? = some u → wr.drew.cell? (((ad.add (k * 129)).add 1).add j) = some u := by
        refine ⟨?_, fun j u hj => ?_⟩
        · rw [← hxi, add_of_add]; exact hc 0 _ rfl
        · rw [add_of_add, add_of_add, show k * 129 + (1 + j) = k * 129 + (j + 1) by omega]; exact hc (j + 1) u (by simpa [rwc] using hj)
      have hus := Try.underlying47
      have hib : (Try.prog.info? 47).map (·.size) = some x.2.cs.length := by rw [Sec.cs_len]; exact sec_size
      have hth : wr.drew.there go (xi * 128) x.2.cs.toArray.size := by
        rw [List.size_toArray, Sec.cs_len]
        exact row_there hrow (by omega)
      have hn1 : (xi : Int) < n := hxn
      have hk1 : (k : Int) < ws.length := by omega
      have Hx := Lib.hid hx
      have Hrow := Lib.hid hrow
      have Hb := Lib.hid hb
      clear hx hrow hb hc
      go_wp2
      refine any_beginL (fun w' => w'.cell? ((ad.add (k * 129)).add 0) = some (.int .i64 xi) ∧ ∀ j u, x.2.cs[j]? = some u → w'.cell? (((ad.add (k * 129)).add 1).add j) = some u) 12 (by kernel_rfl) ?_
      refine L_take (i := 0) (v := .slice (some ⟨go, 0, none⟩) n co) rfl rfl (by kernel_rfl) (by kernel_rfl) (by kernel_rfl) (by kernel_rfl) (fun _ _ _ h => h) (Or.inl ⟨by rfl, fun w _ => by kernel_rfl⟩) hS ?_
      simp only [Act.put, List.getElem_toArray, List.getElem_cons_succ, List.getElem_cons_zero, List.setIfInBounds_toArray, List.set_cons_zero, List.set_cons_succ]
      refine L_take (i := 1) (v := .slice (some ad) ws.length cw) rfl rfl (by kernel_rfl) (by kernel_rfl) (by kernel_rfl) (by kernel_rfl) (fun _ _ _ h => h) (Or.inl ⟨by rfl, fun w _ => by kernel_rfl⟩) hS ?_
      simp only [Act.put, List.getElem_toArray, List.getElem_cons_succ, List.getElem_cons_zero, List.setIfInBounds_toArray, List.set_cons_zero, List.set_cons_succ]
      refine L_take (i := 2) (v := .int .i64 k) rfl rfl (by kernel_rfl) (by kernel_rfl) (by kernel_rfl) (by kernel_rfl) (fun _ _ _ h => h) (Or.inl ⟨by rfl, fun w _ => by kernel_rfl⟩) hS ?_
      simp only [Act.put, List.getElem_toArray, List.getElem_cons_succ, List.getElem_cons_zero, List.setIfInBounds_toArray, List.set_cons_zero, List.set_cons_succ]
      refine L_take (i := 3) (v := .pointer (some (ad.add (k * 129)))) rfl rfl (by kernel_rfl) (by kernel_rfl) (by kernel_rfl) (by kernel_rfl) (fun _ _ _ h => h) (Or.inl ⟨by rfl, fun w _ => by go_simp⟩) hS ?_
      simp only [Act.put, List.getElem_toArray, List.getElem_cons_succ, List.getElem_cons_zero, List.setIfInBounds_toArray, List.set_cons_zero, List.set_cons_succ]
      refine L_take (i := 4) (v := .pointer (some ((ad.add (k * 129)).add 0))) rfl rfl (by kernel_rfl) (by kernel_rfl) (by kernel_rfl) (by kernel_rfl) (fun _ _ _ h => h) (Or.inl ⟨by rfl, fun w _ => by kernel_rfl⟩) hS ?_
      simp only [Act.put, List.getElem_toArray, List.getElem_cons_succ, List.getElem_cons_zero, List.setIfInBounds_toArray, List.set_cons_zero, List.set_cons_succ]
      refine L_take (i := 5) (v := .int .i64 xi) rfl rfl (by kernel_rfl) (by kernel_rfl) (by kernel_rfl) (by kernel_rfl) (fun _ _ _ h => h) (Or.inl ⟨by rfl, fun w hw => by have q := hw.1; rw [add_nought] at q; go_simp⟩) hS ?_
      simp only [Act.put, List.getElem_toArray, List.getElem_cons_succ, List.getElem_cons_zero, List.setIfInBounds_toArray, List.set_cons_zero, List.set_cons_succ]
      refine L_take (i := 6) (v := .slice (some ad) ws.length cw) rfl rfl (by kernel_rfl) (by kernel_rfl) (by kernel_rfl) (by kernel_rfl) (fun _ _ _ h => h) (Or.inl ⟨by rfl, fun w _ => by kernel_rfl⟩) hS ?_
      simp only [Act.put, List.getElem_toArray, List.getElem_cons_succ, List.getElem_cons_zero, List.setIfInBounds_toArray, List.set_cons_zero, List.set_cons_succ]
      refine L_take (i := 7) (v := .int .i64 k) rfl rfl (by kernel_rfl) (by kernel_rfl) (by kernel_rfl) (by kernel_rfl) (fun _ _ _ h => h) (Or.inl ⟨by rfl, fun w _ => by kernel_rfl⟩) hS ?_
      simp only [Act.put, List.getElem_toArray, List.getElem_cons_succ, List.getElem_cons_zero, List.setIfInBounds_toArray, List.set_cons_zero, List.set_cons_succ]
      refine L_take (i := 8) (v := .pointer (some (ad.add (k * 129)))) rfl rfl (by kernel_rfl) (by kernel_rfl) (by kernel_rfl) (by kernel_rfl) (fun _ _ _ h => h) (Or.inl ⟨by rfl, fun w _ => by go_simp⟩) hS ?_
      simp only [Act.put, List.getElem_toArray, List.getElem_cons_succ, List.getElem_cons_zero, List.setIfInBounds_toArray, List.set_cons_zero, List.set_cons_succ]
      refine L_take (i := 9) (v := .pointer (some ((ad.add (k * 129)).add 1))) rfl rfl (by kernel_rfl) (by kernel_rfl) (by kernel_rfl) (by kernel_rfl) (fun _ _ _ h => h) (Or.inl ⟨by rfl, fun w _ => by kernel_rfl⟩) hS ?_
      simp only [Act.put, List.getElem_toArray, List.getElem_cons_succ, List.getElem_cons_zero, List.setIfInBounds_toArray, List.set_cons_zero, List.set_cons_succ]
      refine L_take (i := 10) (v := .agg x.2.cs.toArray) rfl rfl (by kernel_rfl) (by kernel_rfl) (by kernel_rfl) (by kernel_rfl) (fun _ _ _ h => h) (Or.inl ⟨by rfl, fun w hw => exec_load_at 47 (.tmp 25) rfl _ rfl _ _ hw.2 hus rfl hib⟩) hS ?_
      simp only [Act.put, List.getElem_toArray, List.getElem_cons_succ, List.getElem_cons_zero, List.setIfInBounds_toArray, List.set_cons_zero, List.set_cons_succ]
      refine L_take (i := 11) (v := .pointer (some ⟨go, xi * 128, none⟩)) rfl rfl (by kernel_rfl) (by kernel_rfl) (by kernel_rfl) (by kernel_rfl) (fun _ _ _ h => h) (Or.inl ⟨by rfl, fun w _ => by go_simp⟩) hS ?_
      simp only [Act.put, List.getElem_toArray, List.getElem_cons_succ, List.getElem_cons_zero, List.setIfInBounds_toArray, List.set_cons_zero, List.set_cons_succ]
      refine L_last (by kernel_rfl) rfl (by rfl) (by kernel_rfl) ?_
      simp only [Act.put, List.getElem_toArray, List.getElem_cons_succ, List.getElem_cons_zero, List.setIfInBounds_toArray, List.set_cons_zero, List.set_cons_succ]
      refine wp_store_mid 47 (.tmp 27) (.tmp 26) (by rfl) go (xi * 128) x.2.cs.toArray (by rfl) (by rfl) hth (by rw [List.size_toArray]; exact hib) (all_oneCell_toArray x.2.one) ?_
      refine NoPanic.normal ?_
      clear hS hus hib hth
      go_wp2
      go_roundw
      case rel =>
        refine ⟨k + 1, by omega, by go_num, Hb.out.drew.grown (setCells_grown go _ _ _).1 Hb.out.drew.size (fun g hg => by injection hg with hg; omega), ?_⟩
        have := row_put x.2 (w := wr.drew) Hrow.out (show xi < n by omega)
        rw [take_snoc_any Hx.out]
        refine row_same_cells this fun i hi => ?_
        rw [settled_snoc, if_pos rfl]
        unfold upd
        rw [hxi]
        by_cases h : i = xi
        · simp [h]
        · rw [if_neg h, if_neg (by omega)]
      case measure => simp [intOf]; omega
    · go_wp2
      go_ret
      rw [List.take_of_length_le (by omega)] at hrow
      exact ⟨_, rfl, hrow, hb⟩
end Go.Proofs.Ytgcghoalepkdfaa
