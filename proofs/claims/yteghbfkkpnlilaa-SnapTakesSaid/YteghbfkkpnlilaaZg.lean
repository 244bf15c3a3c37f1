/-
  What the laws ask of a reader: bytes and numbers side by side, bytes written over, one read by both. Conditions: the readers lie where they are said to.
-/
import Derived.Test.YteghbfkkpnlilaaZf
import Derived.Deep.QuietTactic
import Derived.BigQuiet
import Derived.Laws.MakeOwn
import Derived.WideShapes
import Derived.Laws.Strings
import Derived.Deep.LoopGhost
import Derived.OpenShut
import Derived.ShutString
import Derived.ChangeOld
import Derived.Deep.Matrix
import Derived.Deep.Slices
import Derived.Deep.Grids
import Derived.Deep.Fields
import Derived.ChangeSame
import Derived.Deep.DeepHandedRow
import Derived.Lib.LaidTab

namespace Go.Proofs.Yteghbfkkpnlilaa
open Go.RowKit
set_option linter.unusedSimpArgs false
set_option maxRecDepth 100000
set_option linter.unusedVariables false
theorem over_any (w : World) (base : Nat) (v : Value) (n : Nat) (bs : List Nat) (h : Own w base v n bs) (hlt : ∀ b ∈ bs, b < 256) (hn : n ≤ 10000000) :
    Calls Try.prog 31 #[v] w fun e w' => e = .returned (.tuple #[]) ∧ Only (rowOf v) w w' := by
  obtain ⟨A, c, rfl, hnc, hcm, hA⟩ := h.form
  have H := Lib.hid (And.intro h hlt)
  clear h hlt
  go_enter Try.func31, Try.ntmps31
  go_wp2
  go_loopw [5] (fun i wr => ∃ (k : Nat) (cs : List Nat), k ≤ n ∧ i = .int .i64 k ∧ Own wr base (.slice A n c) n cs ∧ (∀ b ∈ cs, b < 256) ∧ Only (rowOf (.slice A n c)) w wr) (fun i _ => n - (intOf i).toNat)
  case atStart => exact ⟨0, bs, Nat.zero_le _, rfl, H.out.1, H.out.2, Only.refl _ _⟩
  case round =>
    obtain ⟨k, cs, hk, rfl, ho, hcs, hy⟩ := hrel
    by_cases hlt : k < n
    · obtain ⟨g, rfl, hbg, -⟩ : ∃ g, A = some ⟨g, 0, none⟩ ∧ base ≤ g ∧ True := by
        rcases hA with ⟨rfl, h0, _⟩ | ⟨g, h1, h2, _⟩
        · omega
        · exact ⟨g, h1, h2, trivial⟩
      have hkl : k < cs.length := by have := ho.len; omega
      obtain ⟨b, hb⟩ : ∃ b, cs[k]? = some b := ⟨_, List.getElem?_eq_getElem hkl⟩
      have hb256 := hcs b (List.mem_of_getElem? hb)
      have hc := ho.cell hb
      have hf := ho.frozen k
      have hx : bits .xor .u8 (b : Int) 255 = ((b ^^^ 255 : Nat) : Int) := u8_xor_nat b 255 hb256 (by omega)
      have hx256 : b ^^^ 255 < 256 := Nat.xor_lt_two_pow (n := 8) (by omega) (by omega)
      have Ho := Lib.hid ho
      have Hcs := Lib.hid hcs
      have Hy := Lib.hid hy
      have hk0 : (0 : Int) ≤ (k : Int) := by omega
      have hk1 : (k : Int) < (n : Int) := by omega
      clear ho hcs hy hb
      go_wp2
      refine ⟨⟨k + 1, cs.set k (b ^^^ 255), by omega, by go_num, Ho.out.stored k _, fun x hm => ?_, Hy.out.setCell (.inl (by simp [rowOf, Value.ownBlock])) _⟩, by simp only [intOf]; omega⟩
      rcases List.mem_or_eq_of_mem_set hm with hm | rfl
      · exact Hcs.out x hm
      · exact hx256
    · have Hy := Lib.hid hy
      clear hy ho
      go_wp2
      refine bodyPost_end (results_none rfl _ _ _) rfl ?_
      exact ⟨rfl, Hy.out⟩
section
variable {w w1 w' : World} {base g : Nat} {F F1 : List Nat} {p : Option Addr} {s t : RD}
end
end Go.Proofs.Yteghbfkkpnlilaa

/-
  The chapter's example holds. No condition.
-/
namespace Go.Proofs.Yteghbfkkpnlilaa
open Go.RowKit
set_option linter.unusedSimpArgs false
set_option maxRecDepth 100000
set_option linter.unusedVariables false
end Go.Proofs.Yteghbfkkpnlilaa

/-
  What the laws' own Copy and Kept return. Conditions: the bytes are no more than a million.
-/
namespace Go.Proofs.Yteghbfkkpnlilaa
open Go.RowKit
set_option linter.unusedSimpArgs false
set_option maxRecDepth 100000
set_option linter.unusedVariables false
set_option maxHeartbeats 400000 in
theorem copy_any (A : Option Addr) (n c : Nat) (bs : List Nat) (w : World) (hn : n ≤ 1000000) (hb : Bytes w w.heap.size A n bs) :
    Calls Try.prog 13 #[.slice A n c] w fun e w' => ∃ g cap, e = .returned (.slice (some ⟨g, 0, none⟩) n cap) ∧ n + 2 ≤ cap ∧ w.heap.size ≤ g ∧
      Own w' w.heap.size (.slice (some ⟨g, 0, none⟩) (n + 2) cap) (n + 2) (bs ++ [165, 90]) ∧ Below w.heap.size w w' := by
  go_enter Try.func13, Try.ntmps13
  go_wp2_with (first
    | (refine make_bytes _ _ rfl rfl w.heap.size _ _ _ (n + 2) rfl rfl (by omega) (by omega) (Nat.le_refl _) ?_
       intro w1 h1 g1
       have b1 : Below w.heap.size w w1 := ⟨g1.os, g1.tape, g1.output, g1.size, fun i hi => g1.block i hi (by simp)⟩)
    | (refine app_bytes (.tmp 6) (.tmp 7) rfl rfl w.heap.size _ 0 [] rfl h1 w.heap.size A n c bs rfl (hb.below b1) (by omega) b1.size ?_
       intro v2 w2 h2 g2 a2
       have b2 : Below w.heap.size w w2 := below_own b1 h1 (Nat.le_refl _) g2 b1.size)
    | (refine app_bytes (.tmp 8) (.tmp 9) rfl rfl w.heap.size _ _ _ rfl (h2.alloc _) _ _ 2 2 [165, 90] rfl (Bytes.new _ _ _ _ (by decide)) (by omega) (Nat.le_trans b2.size (by simp)) ?_
       intro v3 w3 h3 g3 a3
       have b3 : Below w.heap.size w w3 := below_own (b2.alloc b2.size _) (h2.alloc _) (Nat.le_refl _) g3 (Nat.le_trans b2.size (by simp))
       have h3' : Own w3 w.heap.size v3 (n + 2) (bs ++ [165, 90]) := by simpa using h3
       clear h3
       obtain ⟨A3, cap3, rfl, hcap, hmax, hA3⟩ := h3'.form
       unfold maxLen at hmax
       obtain ⟨g, rfl, hg1, hg2⟩ : ∃ g, A3 = some ⟨g, 0, none⟩ ∧ w.heap.size ≤ g ∧ g < w3.heap.size := hA3.resolve_left (by omega)
       clear hA3))
  go_ret
  exact ⟨g, cap3, rfl, hcap, hg1, h3', b3⟩
theorem mine_bytes {w w0 : World} {B B0 g n cap : Nat} {A : Option Addr} {bs : List Nat} (hm : Own w B (.slice (some ⟨g, 0, none⟩) (n + 2) cap) (n + 2) (bs ++ [165, 90])) (hb : Bytes w0 B0 A n bs) :
    Bytes w w.heap.size (some ⟨g, 0, none⟩) n bs := by
  have hmb := hm.bytes (fun x hx => by
    rcases List.mem_append.1 hx with hx | hx
    · exact hb.2 x hx
    · simp at hx; omega)
  refine ⟨?_, hb.2⟩
  have := hmb.1.take (k := n) (by omega)
  rwa [u8s, ← List.map_take, List.take_left' (by have := hb.len; omega)] at this
set_option maxHeartbeats 400000 in
theorem kept_any (A : Option Addr) (n c g cap B : Nat) (bs : List Nat) (w : World) (hn : n ≤ 1000000) (hcap : n + 2 ≤ cap) (hb : Bytes w B A n bs)
    (hm : Own w B (.slice (some ⟨g, 0, none⟩) (n + 2) cap) (n + 2) (bs ++ [165, 90])) :
    Calls Try.prog 19 #[.slice (some ⟨g, 0, none⟩) n cap, .slice A n c] w fun e w' => e = .returned (.bool true) ∧ Below w.heap.size w w' := by
  have hmb := hm.bytes (fun x hx => by
    rcases List.mem_append.1 hx with hx | hx
    · exact hb.2 x hx
    · simp at hx; omega)
  have hm1 : Bytes w w.heap.size (some ⟨g, 0, none⟩) n bs := ⟨by
    have := hmb.1.take (k := n) (by omega)
    rwa [u8s, ← List.map_take, List.take_left' (by have := hb.len; omega)] at this, hb.2⟩
  have k1 := str_of (P := Try.prog) hm1 cap 22 9 5 Try.underlying22 Try.underlying5 Try.underlying9
  have k2 := str_of (P := Try.prog) hb c 22 9 5 Try.underlying22 Try.underlying5 Try.underlying9
  have hl := hb.len
  have c1 : w.cell? ⟨g, n, none⟩ = some (.int .u8 165) := by
    rw [World.ownsRow.cellAt hm n (by omega)]
    simp [u8s, u8, hl]
  have c2 : w.cell? ⟨g, n + 1, none⟩ = some (.int .u8 90) := by
    rw [World.ownsRow.cellAt hm (n + 1) (by omega)]
    simp [u8s, u8, hl, show n + 1 - n = 1 by omega]
  clear hl hmb hm1 hm hb
  generalize strOf bs = str at k1 k2
  go_enter Try.func19, Try.ntmps19
  go_wp2_with fail
  all_goals go_ret
  all_goals exact ⟨rfl, Below.refl _ _⟩
theorem mine_own {w : World} {base g n cap : Nat} {bs m : List Nat} (h : Own w base (.slice (some ⟨g, 0, none⟩) (n + 2) cap) (n + 2) (bs ++ m)) (hl : bs.length = n) : Own w base (.slice (some ⟨g, 0, none⟩) n cap) n bs := by
  refine ⟨by rw [u8s_length]; omega, ?_⟩
  rcases h.2 with ⟨h, _⟩ | ⟨g', cap', cur, hv, h1, h2, h3, h4, h5, h6⟩
  · cases h
  · injection hv with e1 e2 e3
    injection e1 with e1
    injection e1 with e1
    subst e1 e3
    refine .inr ⟨g, cap, cur, rfl, h1, h2, by omega, h4, h5, ?_⟩
    have := congrArg (List.take (n * 1)) h6
    rw [List.take_take, u8s, List.map_append, List.take_left' (by simp; omega)] at this
    rw [show min (n * 1) ((n + 2) * 1) = n * 1 by omega] at this
    exact this
end Go.Proofs.Yteghbfkkpnlilaa

/-
  What the laws of marks ask of bytes and numbers: copies, rows side by side. Conditions: the rows read as they are said to.
-/
namespace Go.Proofs.Yteghbfkkpnlilaa
open Go.RowKit
set_option linter.unusedSimpArgs false
set_option maxRecDepth 100000
set_option linter.unusedVariables false
end Go.Proofs.Yteghbfkkpnlilaa

/-
  How arguments that came in are opened: bytes, numbers, flags. No condition.
-/
namespace Go.Proofs.Yteghbfkkpnlilaa
open Go.ChangeShapes Go.WideShapes Go.ChangeAt Go.RowKit
set_option maxRecDepth 100000
theorem own : ownKnob Try.prog.godebug = none := by kernel_rfl
theorem laidOut : laidOutB Try.prog = true := by kernel_rfl
theorem lt_of_cell {w : World} {a : Addr} {v : Value} (h : w.cell? a = some v) : a.block < w.heap.size := by
  rcases Nat.lt_or_ge a.block w.heap.size with h' | h'
  · exact h'
  · simp [World.cell?, Array.getElem?_eq_none h'] at h
theorem getD_map_toNat (zs : List Int) (i : Nat) (h : i < zs.length) (h0 : ∀ z ∈ zs, 0 ≤ z ∧ z ≤ 255) : ((((zs.map Int.toNat)[i]?).getD 0 : Nat) : Int) = zs.getD i 0 := by
  have := h0 _ (List.getElem_mem h)
  simp [h]
  omega
theorem bytes_of_cells {W : World} {a : Addr} {len cap : Nat} {zs : List Int} (hl : len ≤ cap) (hz : zs.length = cap) (hcell : ∀ i, i < cap → W.cell? (a.add i) = some (.int .u8 (zs.getD i 0)))
    (hw : ∀ n ∈ zs, (Lit.int .u8 n).wf = true) : Bytes W W.heap.size (some a) len ((zs.map Int.toNat).take len) := by
  have hb : ∀ z ∈ zs, 0 ≤ z ∧ z ≤ 255 := fun z hz' => by
    have := hw z hz'
    simp [Lit.wf, IntKind.min, IntKind.max, IntKind.bits, IntKind.signed] at this
    omega
  refine ⟨⟨by simp [u8s]; omega, fun hn => ⟨a, rfl, ?_, fun j u hu => ?_⟩⟩, ?_⟩
  · have := lt_of_cell (hcell 0 (by omega))
    rwa [block_of_add] at this
  · have hj : j < len := by
      rcases Nat.lt_or_ge j len with h | h
      · exact h
      · rw [List.getElem?_eq_none (by simp [u8s]; omega)] at hu
        cases hu
    rw [hcell j (by omega), ← hu]
    have := getD_map_toNat zs j (by omega) hb
    simp [u8s, u8, hj, show j < zs.length by omega] at this ⊢
    omega
  · intro b hb'
    obtain ⟨z, hz', rfl⟩ := List.mem_map.1 (List.mem_of_mem_take hb')
    have := hb z hz'
    omega
theorem bytes_of {H : Type} {enc : TypeId × Value → H} {W : World} {n : Nat} {v : Value} {y : DataW H × List MemPlace} (h : DataW.trod enc Try.prog W 0 (fun _ => true) true n 22 [v] = some y) :
    ∃ (A : Option Addr) (m c : Nat) (l : List Nat), v = .slice A m c ∧ (m ≤ c ∧ c ≤ 9223372036854775807) ∧ Bytes W W.heap.size A m l := by
  rcases open_ints Try.underlying22 Try.underlying5 (by kernel_rfl) h with ⟨hcs, _⟩ | ⟨x, l, c, zs, hcs, _, hl, hm, hz, _, hcell, hwz⟩
  · exact ⟨none, 0, 0, [], by simpa using hcs, ⟨by omega, by omega⟩, Reads.none_, by simp⟩
  · simp only [List.cons.injEq, and_true] at hcs
    simp only [if_true] at hz
    unfold maxLen at hm
    exact ⟨_, _, _, _, hcs, ⟨by omega, by omega⟩, bytes_of_cells hl hz (fun i hi => hcell i (by omega)) hwz⟩
theorem open_bytes {H : Type} {enc : TypeId × Value → H} {W : World} {base : Nat} {v : Value} {d : DataW H} {p : List MemPlace} (hval : Value.okWide Try.prog W .any base 22 v)
    (h : DataW.Trod enc Try.prog W 0 (fun _ => true) true 22 v d p) : ∃ (A : Option Addr) (n c : Nat) (bs : List Nat), v = .slice A n c ∧ (n ≤ c ∧ c ≤ 9223372036854775807) ∧ Bytes W W.heap.size A n bs := by
  obtain ⟨a0, len0, cap0, rfl⟩ := okWide_slice Try.underlying22 hval
  obtain ⟨fuel, hf⟩ := h
  exact bytes_of hf
end Go.Proofs.Yteghbfkkpnlilaa
