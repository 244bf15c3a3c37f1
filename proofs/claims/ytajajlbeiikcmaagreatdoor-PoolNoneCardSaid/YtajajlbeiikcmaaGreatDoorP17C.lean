/-
 The law PoolNone, walked: it returns true and changes nothing that was there. Condition: the package's table holds its sixteen numbers.
-/
import Derived.Test.YtajajlbeiikcmaaGreatDoorZj
import Derived.ChangeMaps5
namespace Go.Proofs.YtajajlbeiikcmaaGreatDoor
open Go.ChangeShapes Go.WideShapes Go.ChangeAt Go.RowKit Go.BigFrame
set_option linter.unusedSimpArgs false
set_option linter.unusedVariables false
set_option maxRecDepth 100000
theorem open_str {H : Type} {enc : TypeId × Value -> H} {W : World} {base : Nat} {v : Value} {d : DataW H} {p : List MemPlace} (hval : Value.okWide Tryz.prog W .any base 9 v)
  (h : DataW.Trod enc Tryz.prog W 0 (fun _ => true) true 9 v d p) : ∃ s : ByteArray, v = .string s := by
 obtain ⟨s, rfl, _⟩ := Go.ChangeMaps.open_string Tryz.underlying9 hval h
 exact ⟨s, rfl⟩
set_option maxHeartbeats 8000000 in
theorem poolNone_walk {w : World} (s : ByteArray) (x : Int) (hT : Tab w) : Calls Tryz.prog 5 #[.string s, .int .i64 x] w fun e w' => e = .returned (.bool true) /\ Below w.heap.size w w' := by
 have hpos := hT.pos
 have HA := kH (xG5 w hT hpos)
 clear hT
 go_enter Tryz.func5, Tryz.ntmps5
 go_wp2_with fail
 refine HA.out.mono ?_
 rintro e w1 ⟨rfl, hb1⟩
 have HB1 := kH hb1
 clear hb1 HA
 go_wp2_with fail
 obtain ⟨w2, hw2⟩ : ∃ w2, w2 = w1.alloc (.cells #[.int .i64 6, .int .i64 0, .int .i64 0, .string { data := #[] }, .slice none 0 0] 52) := ⟨_, rfl⟩
 have hb2 : Below w1.heap.size w1 w2 := by rw [hw2]; exact x06 _ _
 rw [<- hw2]
 refine (xOV w2 s _ _ _).mono ?_
 rintro e w3 ⟨rfl, hb3⟩
 have HB3 := kH (HB1.out.trans ((hb2.trans (hb3.mono hb2.size)).mono HB1.out.size))
 have HIS := xJW 13 13 w3
 clear hb2 hb3 hw2
 simp only [errV] at HIS ⊢
 have HIS := kH HIS
 go_wp2_with fail
 refine HIS.out.mono ?_
 rintro e w' ⟨rfl, rfl⟩
 go_wp2_with fail
 refine (xH0 w3 x).mono ?_
 rintro e w4 ⟨rfl, hb4⟩
 have HB4 := kH (HB3.out.trans (hb4.mono HB3.out.size))
 have HIS2 := xJW 13 13 w4
 clear hb4
 simp only [errV] at HIS2 ⊢
 have HIS2 := kH HIS2
 go_wp2_with fail
 refine HIS2.out.mono ?_
 rintro e w' ⟨rfl, rfl⟩
 go_wp2_with fail
 refine (xGC w4).mono ?_
 rintro e w' ⟨rfl, rfl⟩
 go_wp2_with fail
 refine (xLH w4 s).mono ?_
 rintro e w' ⟨rfl, rfl⟩
 go_wp2_with fail
 refine (xM8 w4).mono ?_
 rintro e w' ⟨rfl, rfl⟩
 go_wp2_with fail
 refine (xLR w4).mono ?_
 rintro e w' ⟨rfl, rfl⟩
 go_wp2_with fail
 refine (xGU w4).mono ?_
 rintro e w' ⟨rfl, rfl⟩
 go_wp2
 go_ret
 exact ⟨rfl, HB4.out⟩
end Go.Proofs.YtajajlbeiikcmaaGreatDoor