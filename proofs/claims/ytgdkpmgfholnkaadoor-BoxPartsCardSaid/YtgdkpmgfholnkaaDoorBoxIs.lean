/-
  What Is returns. Conditions: the package's table holds its sixteen numbers.
-/
import Derived.Test.YtgdkpmgfholnkaaDoorBoxO
namespace Go.Proofs.YtgdkpmgfholnkaaDoor
open Go.RowKit
set_option linter.unusedSimpArgs false
set_option linter.unusedVariables false
def isOf (l : List Nat) (k g n : Int) : Bool := isSealed l && decide (tK l = k ∧ tG l = g ∧ tN l = n)
set_option maxRecDepth 100000 in
set_option maxHeartbeats 1000000 in
theorem is_yes (s : Sec) (k g n : Int) (w : World) (hT : Tab w) (h : isOf s.l k g n = true) :
    Calls Tryd.prog 20 #[.agg s.cs.toArray, .int .i64 k, .int .i64 g, .int .i64 n] w fun e w' => ∃ A c, e = .returned (.tuple #[.slice A (tD s.l).length c, .bool true]) ∧ Own w' w.heap.size (.slice A (tD s.l).length c) (tD s.l).length (tD s.l) ∧ Below w.heap.size w w' := by
  simp only [isOf, Bool.and_eq_true, decide_eq_true_eq] at h
  obtain ⟨hs, rfl, rfl, rfl⟩ := h
  have HT := Lib.hid hT
  have hrs : World.rangeAt (w.alloc (.cells s.cs.toArray 33)) w.heap.size 0 s.cs := (Blk.new w 33 s.cs.toArray).range
  have husec := Tryd.underlying33
  have hubox := Tryd.underlying38
  have hisec := s.info
  have hbz := box_zero
  have b1 := below_alloc w (.cells s.cs.toArray 33)
  have hT1 := Lib.hid (hT.below b1)
  have B1 := Lib.hid b1
  have HS := Lib.hid hs
  clear hT hs b1
  go_enter Tryd.func20, Tryd.ntmps20
  go_wp2_with (refine wpList_load_mid rfl 33 (.tmp 4) rfl w.heap.size 0 rfl s.cs _ hrs husec rfl hisec ?_)
  refine (open_good s _ hT1.out HS.out).mono ?_
  rintro e w2 ⟨A, c, rfl, ho, b2⟩
  have hK2 := Blk.new w2 38 (boxCs (tK s.l) (tG s.l) (tN s.l) (.slice A (tD s.l).length c)).toArray
  have cc := box_cells hK2
  have c0 := cc.1
  have c1 := cc.2.1
  have c2 := cc.2.2.1
  have c3 := cc.2.2.2
  have hib : (Tryd.prog.info? 38).map (·.size) = some (boxCs (tK s.l) (tG s.l) (tN s.l) (.slice A (tD s.l).length c)).length := box_size
  have hone := boxCs_one (tK s.l) (tG s.l) (tN s.l) A (tD s.l).length c
  have bb := B1.out.trans (b2.mono (by simp))
  have HO := Lib.hid (And.intro ((ho.alloc (.cells (boxCs (tK s.l) (tG s.l) (tN s.l) (.slice A (tD s.l).length c)).toArray 38)).weaken (base' := w.heap.size) (by simp)) (bb.alloc bb.size (.cells (boxCs (tK s.l) (tG s.l) (tN s.l) (.slice A (tD s.l).length c)).toArray 38)))
  clear ho b2 cc bb hK2 hrs
  simp only [boxCs] at c0 c1 c2 c3 hib hone ⊢
  go_wp2_with (refine wpList_store_newN rfl 38 (.tmp 10) (.tmp 15) rfl w2.heap.size rfl _ _ rfl rfl hib rfl hone ?_)
  go_ret2
  exact ⟨A, c, rfl, HO.out⟩
set_option maxRecDepth 100000 in
set_option maxHeartbeats 1000000 in
theorem is_no_open (s : Sec) (k g n : Int) (w : World) (hT : Tab w) (hs : isSealed s.l = false) :
    Calls Tryd.prog 20 #[.agg s.cs.toArray, .int .i64 k, .int .i64 g, .int .i64 n] w fun e w' => e = .returned (.tuple #[.slice none 0 0, .bool false]) ∧ Below w.heap.size w w' := by
  have HT := Lib.hid hT
  have hrs : World.rangeAt (w.alloc (.cells s.cs.toArray 33)) w.heap.size 0 s.cs := (Blk.new w 33 s.cs.toArray).range
  have husec := Tryd.underlying33
  have hubox := Tryd.underlying38
  have hisec := s.info
  have hbz := box_zero
  have b1 := below_alloc w (.cells s.cs.toArray 33)
  have hT1 := Lib.hid (hT.below b1)
  have B1 := Lib.hid b1
  have HS := Lib.hid hs
  clear hT hs b1
  go_enter Tryd.func20, Tryd.ntmps20
  go_wp2_with (refine wpList_load_mid rfl 33 (.tmp 4) rfl w.heap.size 0 rfl s.cs _ hrs husec rfl hisec ?_)
  refine (open_bad s _ hT1.out HS.out).mono ?_
  rintro e w2 ⟨rfl, b2⟩
  have bb := B1.out.trans (b2.mono (by simp))
  have HB := Lib.hid (bb.alloc bb.size (.cells (boxCs 0 0 0 (.slice none 0 0)).toArray 38))
  have hib : (Tryd.prog.info? 38).map (·.size) = some (boxCs 0 0 0 (.slice none 0 0)).length := box_size
  have hone := boxCs_one 0 0 0 none 0 0
  clear b2 bb hrs
  simp only [boxCs, errV] at hib hone ⊢
  go_wp2_with (refine wpList_store_newN rfl 38 (.tmp 10) (.tmp 15) rfl w2.heap.size rfl _ _ rfl rfl hib rfl hone ?_)
  go_ret2
  exact ⟨rfl, HB.out⟩
set_option maxRecDepth 100000 in
set_option maxHeartbeats 1000000 in
theorem is_no_k (s : Sec) (k g n : Int) (w : World) (hT : Tab w) (hs : isSealed s.l = true) (hk : tK s.l ≠ k) :
    Calls Tryd.prog 20 #[.agg s.cs.toArray, .int .i64 k, .int .i64 g, .int .i64 n] w fun e w' => e = .returned (.tuple #[.slice none 0 0, .bool false]) ∧ Below w.heap.size w w' := by
  have HT := Lib.hid hT
  have hrs : World.rangeAt (w.alloc (.cells s.cs.toArray 33)) w.heap.size 0 s.cs := (Blk.new w 33 s.cs.toArray).range
  have husec := Tryd.underlying33
  have hubox := Tryd.underlying38
  have hisec := s.info
  have hbz := box_zero
  have b1 := below_alloc w (.cells s.cs.toArray 33)
  have hT1 := Lib.hid (hT.below b1)
  have B1 := Lib.hid b1
  have HS := Lib.hid hs
  have hd1 : (tK s.l != k) = true := by simpa using hk
  clear hT hs b1 hk
  go_enter Tryd.func20, Tryd.ntmps20
  go_wp2_with (refine wpList_load_mid rfl 33 (.tmp 4) rfl w.heap.size 0 rfl s.cs _ hrs husec rfl hisec ?_)
  refine (open_good s _ hT1.out HS.out).mono ?_
  rintro e w2 ⟨A, c, rfl, ho, b2⟩
  have hK2 := Blk.new w2 38 (boxCs (tK s.l) (tG s.l) (tN s.l) (.slice A (tD s.l).length c)).toArray
  have cc := box_cells hK2
  have c0 := cc.1
  have c1 := cc.2.1
  have c2 := cc.2.2.1
  have c3 := cc.2.2.2
  have hib : (Tryd.prog.info? 38).map (·.size) = some (boxCs (tK s.l) (tG s.l) (tN s.l) (.slice A (tD s.l).length c)).length := box_size
  have hone := boxCs_one (tK s.l) (tG s.l) (tN s.l) A (tD s.l).length c
  have bb := B1.out.trans (b2.mono (by simp))
  have HO := Lib.hid (And.intro ((ho.alloc (.cells (boxCs (tK s.l) (tG s.l) (tN s.l) (.slice A (tD s.l).length c)).toArray 38)).weaken (base' := w.heap.size) (by simp)) (bb.alloc bb.size (.cells (boxCs (tK s.l) (tG s.l) (tN s.l) (.slice A (tD s.l).length c)).toArray 38)))
  clear ho b2 cc bb hK2 hrs
  simp only [boxCs] at c0 c1 c2 c3 hib hone ⊢
  go_wp2_with (refine wpList_store_newN rfl 38 (.tmp 10) (.tmp 15) rfl w2.heap.size rfl _ _ rfl rfl hib rfl hone ?_)
  go_ret2
  exact ⟨rfl, HO.out.2⟩
set_option maxRecDepth 100000 in
set_option maxHeartbeats 1000000 in
theorem is_no_g (s : Sec) (k g n : Int) (w : World) (hT : Tab w) (hs : isSealed s.l = true) (hk : tK s.l = k) (hg : tG s.l ≠ g) :
    Calls Tryd.prog 20 #[.agg s.cs.toArray, .int .i64 k, .int .i64 g, .int .i64 n] w fun e w' => e = .returned (.tuple #[.slice none 0 0, .bool false]) ∧ Below w.heap.size w w' := by
  subst hk
  have HT := Lib.hid hT
  have hrs : World.rangeAt (w.alloc (.cells s.cs.toArray 33)) w.heap.size 0 s.cs := (Blk.new w 33 s.cs.toArray).range
  have husec := Tryd.underlying33
  have hubox := Tryd.underlying38
  have hisec := s.info
  have hbz := box_zero
  have b1 := below_alloc w (.cells s.cs.toArray 33)
  have hT1 := Lib.hid (hT.below b1)
  have B1 := Lib.hid b1
  have HS := Lib.hid hs
  have hd2 : (tG s.l != g) = true := by simpa using hg
  clear hT hs b1 hg
  go_enter Tryd.func20, Tryd.ntmps20
  go_wp2_with (refine wpList_load_mid rfl 33 (.tmp 4) rfl w.heap.size 0 rfl s.cs _ hrs husec rfl hisec ?_)
  refine (open_good s _ hT1.out HS.out).mono ?_
  rintro e w2 ⟨A, c, rfl, ho, b2⟩
  have hK2 := Blk.new w2 38 (boxCs (tK s.l) (tG s.l) (tN s.l) (.slice A (tD s.l).length c)).toArray
  have cc := box_cells hK2
  have c0 := cc.1
  have c1 := cc.2.1
  have c2 := cc.2.2.1
  have c3 := cc.2.2.2
  have hib : (Tryd.prog.info? 38).map (·.size) = some (boxCs (tK s.l) (tG s.l) (tN s.l) (.slice A (tD s.l).length c)).length := box_size
  have hone := boxCs_one (tK s.l) (tG s.l) (tN s.l) A (tD s.l).length c
  have bb := B1.out.trans (b2.mono (by simp))
  have HO := Lib.hid (And.intro ((ho.alloc (.cells (boxCs (tK s.l) (tG s.l) (tN s.l) (.slice A (tD s.l).length c)).toArray 38)).weaken (base' := w.heap.size) (by simp)) (bb.alloc bb.size (.cells (boxCs (tK s.l) (tG s.l) (tN s.l) (.slice A (tD s.l).length c)).toArray 38)))
  clear ho b2 cc bb hK2 hrs
  simp only [boxCs] at c0 c1 c2 c3 hib hone ⊢
  go_wp2_with (refine wpList_store_newN rfl 38 (.tmp 10) (.tmp 15) rfl w2.heap.size rfl _ _ rfl rfl hib rfl hone ?_)
  go_ret2
  exact ⟨rfl, HO.out.2⟩
set_option maxRecDepth 100000 in
set_option maxHeartbeats 1000000 in
theorem is_no_n (s : Sec) (k g n : Int) (w : World) (hT : Tab w) (hs : isSealed s.l = true) (hk : tK s.l = k) (hg : tG s.l = g) (hn : tN s.l ≠ n) :
    Calls Tryd.prog 20 #[.agg s.cs.toArray, .int .i64 k, .int .i64 g, .int .i64 n] w fun e w' => e = .returned (.tuple #[.slice none 0 0, .bool false]) ∧ Below w.heap.size w w' := by
  subst hk hg
  have HT := Lib.hid hT
  have hrs : World.rangeAt (w.alloc (.cells s.cs.toArray 33)) w.heap.size 0 s.cs := (Blk.new w 33 s.cs.toArray).range
  have husec := Tryd.underlying33
  have hubox := Tryd.underlying38
  have hisec := s.info
  have hbz := box_zero
  have b1 := below_alloc w (.cells s.cs.toArray 33)
  have hT1 := Lib.hid (hT.below b1)
  have B1 := Lib.hid b1
  have HS := Lib.hid hs
  have hd3 : (tN s.l != n) = true := by simpa using hn
  clear hT hs b1 hn
  go_enter Tryd.func20, Tryd.ntmps20
  go_wp2_with (refine wpList_load_mid rfl 33 (.tmp 4) rfl w.heap.size 0 rfl s.cs _ hrs husec rfl hisec ?_)
  refine (open_good s _ hT1.out HS.out).mono ?_
  rintro e w2 ⟨A, c, rfl, ho, b2⟩
  have hK2 := Blk.new w2 38 (boxCs (tK s.l) (tG s.l) (tN s.l) (.slice A (tD s.l).length c)).toArray
  have cc := box_cells hK2
  have c0 := cc.1
  have c1 := cc.2.1
  have c2 := cc.2.2.1
  have c3 := cc.2.2.2
  have hib : (Tryd.prog.info? 38).map (·.size) = some (boxCs (tK s.l) (tG s.l) (tN s.l) (.slice A (tD s.l).length c)).length := box_size
  have hone := boxCs_one (tK s.l) (tG s.l) (tN s.l) A (tD s.l).length c
  have bb := B1.out.trans (b2.mono (by simp))
  have HO := Lib.hid (And.intro ((ho.alloc (.cells (boxCs (tK s.l) (tG s.l) (tN s.l) (.slice A (tD s.l).length c)).toArray 38)).weaken (base' := w.heap.size) (by simp)) (bb.alloc bb.size (.cells (boxCs (tK s.l) (tG s.l) (tN s.l) (.slice A (tD s.l).length c)).toArray 38)))
  clear ho b2 cc bb hK2 hrs
  simp only [boxCs] at c0 c1 c2 c3 hib hone ⊢
  go_wp2_with (refine wpList_store_newN rfl 38 (.tmp 10) (.tmp 15) rfl w2.heap.size rfl _ _ rfl rfl hib rfl hone ?_)
  go_ret2
  exact ⟨rfl, HO.out.2⟩
theorem is_no (s : Sec) (k g n : Int) (w : World) (hT : Tab w) (h : isOf s.l k g n = false) :
    Calls Tryd.prog 20 #[.agg s.cs.toArray, .int .i64 k, .int .i64 g, .int .i64 n] w fun e w' => e = .returned (.tuple #[.slice none 0 0, .bool false]) ∧ Below w.heap.size w w' := by
  cases hs : isSealed s.l with
  | false => exact is_no_open s k g n w hT hs
  | true =>
    by_cases hk : tK s.l = k
    · by_cases hg : tG s.l = g
      · by_cases hn : tN s.l = n
        · simp [isOf, hs, hk, hg, hn] at h
        · exact is_no_n s k g n w hT hs hk hg hn
      · exact is_no_g s k g n w hT hs hk hg
    · exact is_no_k s k g n w hT hs hk
end Go.Proofs.YtgdkpmgfholnkaaDoor
