/-
  What the document's Is returns. Conditions: none.
-/
import Derived.Test.YtgdkpmgfholnkaaDoorBoxDO
namespace Go.Proofs.YtgdkpmgfholnkaaDoor
open Go.RowKit
set_option linter.unusedSimpArgs false
set_option linter.unusedVariables false
/-- what the document's Is answers -/
def DIs (s : Sec) (k g n : Int) (w : World) (e : Ending) (w' : World) : Prop :=
  (isOf s.l k g n = true ∧ ∃ A c, e = .returned (.tuple #[.slice A (tD s.l).length c, .bool true]) ∧ Own w' w.heap.size (.slice A (tD s.l).length c) (tD s.l).length (tD s.l) ∧ Below w.heap.size w w') ∨
  (isOf s.l k g n = false ∧ e = .returned (.tuple #[.slice none 0 0, .bool false]) ∧ Below w.heap.size w w')
set_option maxRecDepth 100000 in
set_option maxHeartbeats 2000000 in
theorem dis_any (s : Sec) (k g n : Int) (w : World) :
    Calls Tryd.prog 34 #[.agg s.cs.toArray, .int .i64 k, .int .i64 g, .int .i64 n] w (DIs s k g n w) := by
  have hrs : World.rangeAt (w.alloc (.cells s.cs.toArray 33)) w.heap.size 0 s.cs := (Blk.new w 33 s.cs.toArray).range
  have husec := Tryd.underlying33
  have hisec := s.info
  have hbz := lbox_zero
  have B1 := Lib.hid (below_alloc w (.cells s.cs.toArray 33))
  go_enter Tryd.func34, Tryd.ntmps34
  go_wp2_with (refine wpList_load_mid rfl 33 (.tmp 4) rfl w.heap.size 0 rfl s.cs _ hrs husec rfl hisec ?_)
  refine (dopen_any s _).mono ?_
  rintro e w2 hdo
  rcases hdo with ⟨hs, A, c, rfl, ho, b2⟩ | ⟨hs, rfl, b2⟩
  · have hK2 := Blk.new w2 31 (boxCs (tK s.l) (tG s.l) (tN s.l) (.slice A (tD s.l).length c)).toArray
    have cc := lbox_cells hK2
    have c0 := cc.1
    have c1 := cc.2.1
    have c2 := cc.2.2.1
    have c3 := cc.2.2.2
    have hib : (Tryd.prog.info? 31).map (·.size) = some (boxCs (tK s.l) (tG s.l) (tN s.l) (.slice A (tD s.l).length c)).length := lbox_size
    have hone := boxCs_one (tK s.l) (tG s.l) (tN s.l) A (tD s.l).length c
    have bb := B1.out.trans (b2.mono (by simp))
    have HO := Lib.hid (And.intro ((ho.alloc (.cells (boxCs (tK s.l) (tG s.l) (tN s.l) (.slice A (tD s.l).length c)).toArray 31)).weaken (base' := w.heap.size) (by simp)) (bb.alloc bb.size (.cells (boxCs (tK s.l) (tG s.l) (tN s.l) (.slice A (tD s.l).length c)).toArray 31)))
    have HS := Lib.hid hs
    clear ho b2 cc bb hK2 hrs hs
    simp only [boxCs] at c0 c1 c2 c3 hib hone ⊢
    by_cases hk : tK s.l = k
    case neg =>
      have hd : (tK s.l != k) = true := by simpa using hk
      have hno : isOf s.l k g n = false := by unfold isOf; rw [HS.out, Bool.true_and]; exact decide_eq_false (fun h => hk h.1)
      have HN := Lib.hid hno
      clear hno hk
      go_wp2_with (refine wpList_store_newN rfl 31 (.tmp 10) (.tmp 15) rfl w2.heap.size rfl _ _ rfl rfl hib rfl hone ?_)
      go_ret2
      exact .inr ⟨HN.out, rfl, HO.out.2⟩
    subst hk
    by_cases hg : tG s.l = g
    case neg =>
      have hd : (tG s.l != g) = true := by simpa using hg
      have hno : isOf s.l (tK s.l) g n = false := by unfold isOf; rw [HS.out, Bool.true_and]; exact decide_eq_false (fun h => hg h.2.1)
      have HN := Lib.hid hno
      clear hno hg
      go_wp2_with (refine wpList_store_newN rfl 31 (.tmp 10) (.tmp 15) rfl w2.heap.size rfl _ _ rfl rfl hib rfl hone ?_)
      go_ret2
      exact .inr ⟨HN.out, rfl, HO.out.2⟩
    subst hg
    by_cases hn : tN s.l = n
    case neg =>
      have hd : (tN s.l != n) = true := by simpa using hn
      have hno : isOf s.l (tK s.l) (tG s.l) n = false := by unfold isOf; rw [HS.out, Bool.true_and]; exact decide_eq_false (fun h => hn h.2.2)
      have HN := Lib.hid hno
      clear hno hn
      go_wp2_with (refine wpList_store_newN rfl 31 (.tmp 10) (.tmp 15) rfl w2.heap.size rfl _ _ rfl rfl hib rfl hone ?_)
      go_ret2
      exact .inr ⟨HN.out, rfl, HO.out.2⟩
    subst hn
    have hyes : isOf s.l (tK s.l) (tG s.l) (tN s.l) = true := by unfold isOf; rw [HS.out, Bool.true_and]; exact decide_eq_true ⟨rfl, rfl, rfl⟩
    have HY := Lib.hid hyes
    clear hyes
    go_wp2_with (refine wpList_store_newN rfl 31 (.tmp 10) (.tmp 15) rfl w2.heap.size rfl _ _ rfl rfl hib rfl hone ?_)
    go_ret2
    exact .inl ⟨HY.out, A, c, rfl, HO.out.1, HO.out.2⟩
  · have bb := B1.out.trans (b2.mono (by simp))
    have HB := Lib.hid (bb.alloc bb.size (.cells (boxCs 0 0 0 (.slice none 0 0)).toArray 31))
    have hib : (Tryd.prog.info? 31).map (·.size) = some (boxCs 0 0 0 (.slice none 0 0)).length := lbox_size
    have hone := boxCs_one 0 0 0 none 0 0
    have hno : isOf s.l k g n = false := by unfold isOf; rw [hs]; rfl
    have HN := Lib.hid hno
    clear b2 bb hrs hs hno
    simp only [boxCs] at hib hone ⊢
    go_wp2_with (refine wpList_store_newN rfl 31 (.tmp 10) (.tmp 15) rfl w2.heap.size rfl _ _ rfl rfl hib rfl hone ?_)
    go_ret2
    exact .inr ⟨HN.out, rfl, HB.out⟩
end Go.Proofs.YtgdkpmgfholnkaaDoor
