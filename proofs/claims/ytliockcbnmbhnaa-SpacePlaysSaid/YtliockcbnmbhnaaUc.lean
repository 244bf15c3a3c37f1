/-
  The document's spaces: the holes of a space. Conditions: rows read as they are said to.
-/
import Derived.Test.YtliockcbnmbhnaaUb
namespace Go.Proofs.Ytliockcbnmbhnaa
open Go.RowKit Go.BigFrame
set_option linter.unusedSimpArgs false
set_option linter.unusedVariables false
theorem ftake_snoc {fl : List Bool} {k : Nat} {b : Bool} (h : fl[k]? = some b) : fl.take (k + 1) = fl.take k ++ [b] := by rw [List.take_add_one, h]; rfl
theorem last_take {fl : List Bool} {k : Nat} (hk : 0 < k) (hl : k ≤ fl.length) : (fl.take k).getLast? = fl[k - 1]? := by
  rw [List.getLast?_eq_getElem?, List.length_take, Nat.min_eq_left hl, List.getElem?_take, if_pos (by omega)]
theorem OwnE.longer {w : World} {base g c : Nat} {r : List (Int × Int)} {x y : Int} (h : OwnE w base (.slice (some ⟨g, 0, none⟩) (r ++ [(x, y)]).length c) (r ++ [(x, y)])) (z : Int) :
    OwnE (w.setCell ⟨g, r.length * 2 + 1, none⟩ (.int .i64 z)) base (.slice (some ⟨g, 0, none⟩) (r ++ [(x, z)]).length c) (r ++ [(x, z)]) ∧ w.cell? ⟨g, r.length * 2 + 1, none⟩ = some (.int .i64 y) ∧ w.frozen? ⟨g, r.length * 2 + 1, none⟩ = false := by
  have e : ∀ u, extS (r ++ [(x, u)]) = extS r ++ [.int .i64 x, .int .i64 u] := fun u => by simp [extS, ext1]
  have hl := extS_len r
  have h1 := (World.ownsRow.stored h (r.length * 2 + 1) (.int .i64 z)).1
  have h2 := World.ownsRow.cellAt h (r.length * 2 + 1) (by simp; omega)
  have h3 := World.ownsRow.frozenAt h (r.length * 2 + 1)
  rw [e] at h1 h2
  rw [List.set_append_right _ _ (by omega), hl, show r.length * 2 + 1 - r.length * 2 = 1 by omega] at h1
  rw [List.getElem?_append_right (by omega), hl, show r.length * 2 + 1 - r.length * 2 = 1 by omega] at h2
  refine ⟨?_, h2, h3⟩
  unfold OwnE
  rw [e]
  simpa using h1
set_option maxRecDepth 100000 in
set_option maxHeartbeats 2000000 in
theorem dholes_any {w : World} {B c : Nat} {A : Option Addr} {fl : List Bool} (hl : fl.length ≤ 65536) (hR : Reads w B 1 A fl.length (flagsS fl)) (hB : B ≤ w.heap.size) :
    Calls Try.prog 31 #[.slice A fl.length c] w fun e w' => ∃ v, e = .returned v ∧ OwnE w' w.heap.size v (natE (hol 0 fl)) ∧ Below w.heap.size w w' := by
  have HR := Lib.hid hR
  clear hR
  go_enter Try.func31, Try.ntmps31
  go_wp2
  go_loopw [3, 4] (fun v i wr => ∃ k : Nat, k ≤ fl.length ∧ i = .int .i64 k ∧ OwnE wr w.heap.size v (natE (hol 0 (fl.take k))) ∧ Below w.heap.size w wr) (fun _ i _ => fl.length - (intS i).toNat)
  case atStart => exact ⟨0, by omega, rfl, by simpa [hol, natE] using OwnE.nil w w.heap.size, Below.refl _ _⟩
  case round =>
    obtain ⟨k, hk, rfl, ho, hb⟩ := hrel
    obtain ⟨A1, c1, rfl, -⟩ := ho.form
    have hRr : Reads wr B 1 A fl.length (flagsS fl) := HR.out.below (hb.mono hB)
    have hbs := hb.size
    have hhl : (hol 0 (fl.take k)).length ≤ 65536 := by
      have h1 := hol_few (fl.take k)
      have h2 := cnt_le (fl.take k)
      simp at h2
      omega
    by_cases hlt : k < fl.length
    · obtain ⟨ad, b, rfl, -, he, hc⟩ := flags_get hRr hlt
      have hts := ftake_snoc he
      have hwk : IntKind.i64.wrap ((k : Int) + 1) = (k : Int) + 1 := by rw [IntKind.wrap_i64]; omega
      cases b
      · have HN := Lib.hid (And.intro hts (And.intro ho hb))
        clear hts ho hb hRr
        go_wp2
        go_roundw
        case rel => exact ⟨k + 1, by omega, by go_num, by rw [HN.out.1, hol_snoc_false]; exact HN.out.2.1, HN.out.2.2⟩
        case measure => simp [intS]; omega
      · have hwm : 0 < k → IntKind.i64.wrap ((k : Int) - 1) = ((k - 1 : Nat) : Int) := fun h => by rw [IntKind.wrap_i64]; omega
        have hnew : ∀ (hne : (fl.take k).getLast? ≠ some true), hol 0 (fl.take (k + 1)) = hol 0 (fl.take k) ++ [(k, 1)] := fun hne => by
          have h := hol_snoc_new (fl.take k) 0 hne
          rw [hts, h]
          simp
          omega
        have htl : (fl.take k).length = k := by simp; omega
        have HNW := Lib.hid hnew
        clear hnew
        have happ : (fl.take k).getLast? ≠ some true → ∀ v2 w2, OwnE w2 w.heap.size v2 (natE (hol 0 (fl.take k)) ++ [((k : Int), 1)]) → OwnE w2 w.heap.size v2 (natE (hol 0 (fl.take (k + 1)))) := fun hne v2 w2 h => by
          rw [HNW.out hne]
          simpa [natE] using h
        have HAP := Lib.hid happ
        clear happ
        have hex := ext_new wr ((k : Int), 1)
        have hbe := build_ext ((k : Int), 1)
        have how : OwnE (wr.alloc (.cells (ext1 ((k : Int), 1)).toArray 45)) w.heap.size (.slice A1 (natE (hol 0 (fl.take k))).length c1) (natE (hol 0 (fl.take k))) := ho.alloc _
        have hbw : Below w.heap.size w (wr.alloc (.cells (ext1 ((k : Int), 1)).toArray 45)) := hb.alloc hbs _
        have hnl : (natE (hol 0 (fl.take k))).length = (hol 0 (fl.take k)).length := by simp [natE]
        have HX := Lib.hid (And.intro hex (And.intro how hbw))
        clear hex how hbw
        rcases Nat.eq_zero_or_pos k with hk0 | hk0
        · have hd : decide ((0 : Int) < (k : Int)) = false := decide_eq_false (by omega)
          have hne : (fl.take k).getLast? ≠ some true := by subst hk0; simp
          have hk00 : ¬ (0 < k) := by omega
          have HNL := Lib.hid hnl
          clear hk0 hwm hnl
          have HNE := Lib.hid hne
          have HN := Lib.hid (And.intro ho hb)
          clear ho hb hRr hts hne
          go_wp2_with (refine app_ext (.tmp 35) (.tmp 38) rfl rfl w.heap.size (.slice A1 (natE (hol 0 (fl.take k))).length c1) (natE (hol 0 (fl.take k))) rfl HX.out.2.1 (wr.heap.size + 1) _ 1 1 [((k : Int), 1)] rfl rfl HX.out.1 (by rw [HNL.out]; omega) (by simp; omega) ?_; intro v2 w2 h2 g2 a2)
          have HW := Lib.hid (And.intro (HAP.out HNE.out _ _ h2) (HX.out.2.2.grown g2 (by simp; omega) (fun j hj => (World.ownsRow.lt HX.out.2.1 _ hj).1)))
          clear h2 g2 a2
          go_roundw
          case rel => exact ⟨k + 1, by omega, by go_num, HW.out.1, HW.out.2⟩
          case measure => simp [intS]; omega
        · have hd : decide ((0 : Int) < (k : Int)) = true := decide_eq_true (by omega)
          have hwm' := hwm hk0
          obtain ⟨ad', b', e1, -, he', hc'⟩ := flags_get hRr (show k - 1 < fl.length by omega)
          injection e1 with e1
          subst e1
          have hla := last_take hk0 hk
          rw [he'] at hla
          clear hRr hwm
          cases b'
          · have hne : (fl.take k).getLast? ≠ some true := by rw [hla]; simp
            have HNE := Lib.hid hne
            have HN := Lib.hid (And.intro ho hb)
            have HNL := Lib.hid hnl
            clear ho hb hts hne hla he he' hnl
            go_wp2_with (refine app_ext (.tmp 35) (.tmp 38) rfl rfl w.heap.size (.slice A1 (natE (hol 0 (fl.take k))).length c1) (natE (hol 0 (fl.take k))) rfl HX.out.2.1 (wr.heap.size + 1) _ 1 1 [((k : Int), 1)] rfl rfl HX.out.1 (by rw [HNL.out]; omega) (by simp; omega) ?_; intro v2 w2 h2 g2 a2)
            have HW := Lib.hid (And.intro (HAP.out HNE.out _ _ h2) (HX.out.2.2.grown g2 (by simp; omega) (fun j hj => (World.ownsRow.lt HX.out.2.1 _ hj).1)))
            clear h2 g2 a2
            go_roundw
            case rel => exact ⟨k + 1, by omega, by go_num, HW.out.1, HW.out.2⟩
            case measure => simp [intS]; omega
          · obtain ⟨r, x, y, h1, h2⟩ := hol_snoc_old (fl.take k) 0 hla
            rw [← hts] at h2
            have ho2 := ho
            rw [h1] at ho2
            simp only [natE, List.map_append, List.map_cons, List.map_nil] at ho2
            have hrl : (hol 0 (fl.take k)).length = r.length + 1 := by rw [h1]; simp
            have hmem := hol_mem (fl.take k) 0 x y (by rw [h1]; simp)
            have hyl : y ≤ 65536 := by have := hmem.2.2.1; omega
            obtain ⟨g, c2, hv, hg1, hg2⟩ : ∃ g c2, Value.slice A1 (natE (hol 0 (fl.take k))).length c1 = .slice (some ⟨g, 0, none⟩) (natE (hol 0 (fl.take k))).length c2 ∧ w.heap.size ≤ g ∧ g < wr.heap.size := by
              rcases ho.2 with ⟨e, e0⟩ | ⟨g, c2, cur, e, hg, hh, _⟩
              · omega
              · exact ⟨g, c2, e, hg, Blk.lt (t := 45) hh⟩
            injection hv with hA _ hcc
            subst hA hcc
            obtain ⟨h3, h4, h5⟩ := ho2.longer ((y : Int) + 1)
            rw [List.length_map] at h3 h4 h5
            have hnew2 : OwnE (wr.setCell ⟨g, r.length * 2 + 1, none⟩ (.int .i64 ((y : Int) + 1))) w.heap.size (.slice (some ⟨g, 0, none⟩) (r.length + 1) c1) (natE (hol 0 (fl.take (k + 1)))) := by
              rw [h2]
              simp only [natE, List.map_append, List.map_cons, List.map_nil]
              simpa using h3
            have HW := Lib.hid (And.intro hnew2 (hb.setCell (p := ⟨g, r.length * 2 + 1, none⟩) hg1 (.int .i64 ((y : Int) + 1))))
            have hwy : IntKind.i64.wrap ((y : Int) + 1) = (y : Int) + 1 := by rw [IntKind.wrap_i64]; omega
            have hwr : IntKind.i64.wrap (((r.length + 1 : Nat) : Int) - 1) = (r.length : Int) := by rw [IntKind.wrap_i64]; omega
            have hm : r.length ≤ 65536 := by omega
            have hrl2 : (natE (hol 0 (fl.take k))).length = r.length + 1 := by rw [hnl, hrl]
            clear ho ho2 hb hts hla he he' h1 h2 h3 hnew2 hmem HX HAP HNW hnl hrl hbe hwm' htl
            rw [hrl2]
            generalize hrr : r.length = m at *
            go_wp2
            go_roundw
            case rel => exact ⟨k + 1, by omega, by go_num, HW.out.1, HW.out.2⟩
            case measure => simp [intS]; omega
    · obtain rfl : k = fl.length := by omega
      have HN := Lib.hid (And.intro ho hb)
      clear ho hb hRr
      go_wp2
      go_ret
      refine ⟨_, rfl, ?_, HN.out.2⟩
      have := HN.out.1
      rwa [List.take_length] at this ⊢
end Go.Proofs.Ytliockcbnmbhnaa
