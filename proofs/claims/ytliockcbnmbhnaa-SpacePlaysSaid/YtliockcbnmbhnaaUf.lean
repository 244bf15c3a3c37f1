/-
  Spaces: a space stands as the document's does. Conditions: the rows read as they are said to.
-/
import Derived.Test.YtliockcbnmbhnaaUe
import Derived.Test.YtliockcbnmbhnaaSpaceFewWalk
namespace Go.Proofs.Ytliockcbnmbhnaa
open Go.RowKit Go.BigFrame
set_option linter.unusedSimpArgs false
set_option linter.unusedVariables false
set_option maxHeartbeats 2000000 in
theorem lstands_any {w W : World} {g r c cD : Nat} {A D : Option Addr} {fl : List Bool} (h : Sps w W g r c A fl) (hD : Reads W W.heap.size 1 D fl.length (flagsS fl)) :
    Calls Try.prog 23 #[.pointer (some ⟨g, 0, none⟩), .slice D fl.length cD] W fun e w' => e = .returned (.bool true) ∧ Below W.heap.size W w' := by
  have hlim := h.at_.lim
  have H := Lib.hid h
  have HD := Lib.hid hD
  have HH := Lib.hid (holes_sps h)
  have hfw : (hol 0 fl).length ≤ 65536 := by have h1 := hol_few fl; have h2 := cnt_le fl; omega
  clear h hD
  generalize hL : hol 0 fl = L at *
  have HL := Lib.hid hL
  clear hL
  go_enter Try.func23, Try.ntmps23
  go_wp2_with fail
  refine HH.out.mono ?_
  rintro e w1 ⟨v1, rfl, hv1, hb1⟩
  obtain ⟨A1, c1, rfl, -⟩ := hv1.form
  have HV1 := Lib.hid (And.intro hv1 hb1)
  have HDH := Lib.hid (dholes_any (w := w1) (c := cD) hlim (HD.out.below hb1) hb1.size)
  rw [HL.out] at HDH
  clear hv1 hb1 HH
  go_wp2_with fail
  refine HDH.out.mono ?_
  rintro e w2 ⟨v2, rfl, hv2, hb2⟩
  obtain ⟨A2, c2, rfl, -⟩ := hv2.form
  have hb2' : Below W.heap.size W w2 := HV1.out.2.trans (hb2.mono HV1.out.2.size)
  have hx1 : ExtR w2 w1.heap.size A1 (natE L) := HV1.out.1.ext.below hb2
  have HS := Lib.hid (lsame_any (c1 := c1) (c2 := c2) (natE L) (natE L) hx1 hv2.ext (by simp [natE]; omega) (by simp [natE]; omega) hb2.size (Nat.le_refl _))
  have HB2 := Lib.hid hb2'
  clear hv2 hb2 hb2' hx1 HDH
  go_wp2_with fail
  refine HS.out.mono ?_
  rintro e w3 ⟨rfl, hb3⟩
  have hb3' : Below W.heap.size W w3 := HB2.out.trans (hb3.mono HB2.out.size)
  have HF := Lib.hid (sfree_any (H.out.below hb3').at_.blk)
  have HN := Lib.hid (slen_any (H.out.below hb3').at_.blk)
  have HDF := Lib.hid (dfree_any (w := w3) (c := cD) hlim (HD.out.below hb3'))
  have HB3 := Lib.hid hb3'
  clear hb3 hb3' HS
  rw [show decide True = true from rfl]
  go_wp2_with fail
  refine HF.out.mono ?_
  rintro e w' ⟨rfl, rfl⟩
  go_wp2_with fail
  refine HDF.out.mono ?_
  rintro e w' ⟨rfl, rfl⟩
  go_wp2_with fail
  refine HN.out.mono ?_
  rintro e w' ⟨rfl, rfl⟩
  go_wp2
  go_ret
  exact ⟨by simp, HB3.out⟩
end Go.Proofs.Ytliockcbnmbhnaa
