/-
  Spaces: the holes, rising. Conditions: a space stands as it is said to.
-/
import Derived.Test.YtliockcbnmbhnaaSd
import Derived.Test.YtliockcbnmbhnaaAgg
namespace Go.Proofs.Ytliockcbnmbhnaa
open Go.RowKit Go.BigFrame
set_option linter.unusedSimpArgs false
set_option linter.unusedVariables false
theorem ext_info : (Try.prog.info? 45).map (fun i => (i.zero, i.size, i.bytes)) = some (some (.agg #[.int .i64 0, .int .i64 0]), 2, 16) := by kernel_rfl
/-- a row of extents of the call's own -/
def OwnE (w : World) (base : Nat) (v : Value) (l : List (Int × Int)) : Prop := w.ownsRow base 45 2 v l.length (extS l)
section
variable {w w' : World} {base n c : Nat} {A : Option Addr} {v : Value} {l : List (Int × Int)}
theorem OwnE.ext (h : OwnE w base (.slice A l.length c) l) : ExtR w w.heap.size A l := Reads.of_own h
theorem OwnE.weaken {base' : Nat} (h : OwnE w base v l) (hb : base' ≤ base) : OwnE w base' v l := row_weaken h hb
theorem OwnE.form (h : OwnE w base v l) : ∃ (A : Option Addr) (cap : Nat), v = .slice A l.length cap ∧ (∀ a, A = some a → base ≤ a.block ∧ a.block < w.heap.size ∧ a = ⟨a.block, 0, none⟩) := by
  rcases h.2 with ⟨rfl, h0⟩ | ⟨g, cap, cur, rfl, hb, hh, _⟩
  · exact ⟨none, 0, by rw [h0], fun a e => by cases e⟩
  · refine ⟨_, cap, rfl, fun a e => ?_⟩
    injection e with e
    subst e
    exact ⟨hb, Blk.lt (t := 45) hh, rfl⟩
theorem OwnE.below (h : OwnE w base v l) {B : Nat} (hb : Below B w w') (hB : ∀ k, k ∈ rowOf v → k < B) : OwnE w' base v l := row_of h fun k hk => hb.block k (hB k hk)
theorem OwnE.nil (w : World) (base : Nat) : OwnE w base (.slice none 0 0) [] := World.ownsRow_nil w base _ 2
end
theorem app_ext {w : World} {ops : Array Oper} {rest : List Oper} {o : Oper} {a : Act} {Q : Exit → Act → World → Prop} (s x : Operand)
    (hgd : o.guard = none) (ho : o.op = .call { callee := .builtin .append, args := #[s, x], argTypes := #[36, 36] })
    (base : Nat) (v : Value) (l : List (Int × Int)) (hs : a.eval s = v) (hown : OwnE w base v l)
    (B : Nat) (A : Option Addr) (m c : Nat) (news : List (Int × Int)) (hx : a.eval x = .slice A m c) (hm : m = news.length) (hr : ExtR w B A news)
    (hsz : l.length + m ≤ 10000000) (hbase : base ≤ w.heap.size)
    (h : ∀ v' w', OwnE w' base v' (l ++ news) → w.grownBy w' v.ownBlock → (v'.ownBlock = v.ownBlock ∨ v'.ownBlock = some w.heap.size) → wpList Try.prog ops Q rest (a.put o.dst v') w') :
    wpList Try.prog ops Q (o :: rest) a w := by
  subst hm
  obtain ⟨i0, hi0, hz0, hz1, hz2⟩ := info_parts ext_info
  refine wpList_append_any w hgd s x _ ho base 45 i0 _ 2 16 Try.underlying36 hi0 hz0 hz1 hz2 rfl (by omega) v l.length (extS l) hs hown B A news.length c (extS news) hx hr (extS_one _) (by simp only [maxLen]; omega) (by omega) hbase ?_
  intro v' w' h1 h2 h3
  exact h v' w' (by unfold OwnE; rw [extS, List.flatMap_append, List.length_append]; exact h1) h2 h3
theorem build_ext (v : Int × Int) (w : World) : (Instr.buildSlice 36 1 #[(0, .agg #[.int .i64 v.1, .int .i64 v.2])]).run Try.prog w = .ok (.slice (some ⟨w.heap.size, 0, none⟩) 1 1) (w.alloc (.cells (ext1 v).toArray 45)) :=
  run_buildSlice_one (size := 2) Try.underlying36 (by kernel_rfl) (by omega) (by omega) rfl w
theorem ext_new (w : World) (v : Int × Int) : ExtR (w.alloc (.cells (ext1 v).toArray 45)) (w.heap.size + 1) (some ⟨w.heap.size, 0, none⟩) [v] := by
  have := Reads.newN w (ext1 v) 1 2 45 (0, 0) rfl
  simpa [ExtR, extS] using this
set_option maxHeartbeats 1000000 in
theorem sholes_any {w : World} {g r c : Nat} {A : Option Addr} {fl : List Bool} {left : Int} (h : SAt w g r A c fl left) :
    Calls Try.prog 28 #[.pointer (some ⟨g, 0, none⟩)] w fun e w' => ∃ v, e = .returned v ∧ OwnE w' w.heap.size v (natE (hol 0 fl)) ∧ Below w.heap.size w w' := by
  have H := Lib.hid h
  have hlim := h.lim
  have hcap := h.cap
  have hgl := h.blk.lt
  have hrl : ∀ wx, Below w.heap.size w wx → SAt wx g r A c fl left := fun wx hb => h.of (hb.block g hgl) (fun _ _ hx => hb.block r hx.lt)
  have HK := Lib.hid hrl
  clear h hrl
  go_enter Try.func28, Try.ntmps28
  go_wp2
  go_loopw [3, 4] (fun v i wr => ∃ (k : Nat) (l : List (Int × Int)), k ≤ fl.length + 1 ∧ i = .int .i64 k ∧ OwnE wr w.heap.size v l ∧ l.length ≤ k ∧ Below w.heap.size w wr ∧ l ++ natE (hol k (fl.drop k)) = natE (hol 0 fl)) (fun _ i _ => fl.length + 2 - (intS i).toNat)
  case atStart => exact ⟨0, [], by omega, rfl, OwnE.nil _ _, by simp, Below.refl _ _, by simp⟩
  case round =>
    obtain ⟨k, l, hk, rfl, ho, hlk, hb, hl⟩ := hrel
    obtain ⟨A1, cap, rfl, hA1⟩ := ho.form
    have hs := HK.out _ hb
    have HL := Lib.hid hl
    have HO := Lib.hid ho
    have HB := Lib.hid hb
    have HS := Lib.hid (slen_any hs.blk)
    have hrb := hs.row.reads
    have HF := fun (hk : k ≤ fl.length) => freeFrom_any fl k hk hcap (by omega) hs.blk hrb
    clear hl ho hb hs hA1 hrb
    by_cases hlt : k < fl.length
    · have HF' := Lib.hid (HF (by omega))
      clear HF
      have hru := run_le (fl.drop k)
      rw [List.length_drop] at hru
      have h0 := hol_step0 (fl.drop k) k
      have h1 := hol_step (fl.drop k) k
      rw [List.drop_drop] at h0 h1
      have HH := Lib.hid (And.intro h0 h1)
      clear h0 h1
      generalize runOf (fl.drop k) = n at *
      go_wp2_with fail
      refine HS.out.mono ?_
      rintro e w' ⟨rfl, rfl⟩
      go_wp2_with fail
      refine HF'.out.mono ?_
      rintro e w' ⟨rfl, rfl⟩
      by_cases hn : n = 0
      · have hN := HH.out.1 hn
        have HN := Lib.hid hN
        clear hN HH
        subst hn
        go_wp2
        go_roundw
        case rel => exact ⟨k + 1, l, by omega, by go_num, HO.out, by omega, HB.out, by rw [← HN.out]; exact HL.out⟩
        case measure => simp [intS]; omega
      · have hd : decide ((0 : Int) < (n : Int)) = true := decide_eq_true (by omega)
        have hN := HH.out.2 (by omega)
        have HN := Lib.hid hN
        clear hN HH
        have hbz := HB.out.size
        have hex := ext_new wr ((k : Int), (n : Int))
        have how : OwnE (wr.alloc (.cells (ext1 ((k : Int), (n : Int))).toArray 45)) w.heap.size (.slice A1 l.length cap) l := HO.out.alloc _
        have HX := Lib.hid (And.intro hex how)
        clear hex how
        have hbw : Below w.heap.size w (wr.alloc (.cells (ext1 ((k : Int), (n : Int))).toArray 45)) := HB.out.alloc (by omega) _
        have HBW := Lib.hid hbw
        clear hbw
        have hwx : IntKind.i64.wrap ((k : Int) + (n : Int)) = (k : Int) + (n : Int) := by rw [IntKind.wrap_i64]; omega
        go_wp2_with (refine app_ext (.tmp 17) (.tmp 21) rfl rfl w.heap.size (.slice A1 l.length cap) l rfl HX.out.2 (wr.heap.size + 1) _ 1 1 [((k : Int), (n : Int))] rfl rfl HX.out.1 (by omega) (by simp; omega) ?_; intro v2 w2 h2 g2 a2)
        have hb2 : Below w.heap.size w w2 := HBW.out.grown g2 (by simp; omega) (fun j hj => (World.ownsRow.lt HO.out _ hj).1)
        have HB2 := Lib.hid hb2
        have HO2 := Lib.hid h2
        clear hb2 h2 a2 g2
        go_roundw
        case rel =>
          refine ⟨k + n + 1, l ++ [((k : Int), (n : Int))], by omega, by go_num, HO2.out, by simp; omega, HB2.out, ?_⟩
          have hL := HL.out
          rw [HN.out] at hL
          rw [← hL]
          simp only [natE, List.map_cons, List.append_assoc, List.singleton_append]
          rw [show k + (n + 1) = k + n + 1 by omega]
        case measure => simp [intS]; omega
    · clear HF
      go_wp2_with fail
      refine HS.out.mono ?_
      rintro e w' ⟨rfl, rfl⟩
      go_wp2
      go_ret
      have h := HL.out
      rw [List.drop_of_length_le (by omega)] at h
      simp [hol, natE] at h
      exact ⟨_, rfl, by rw [natE, ← h]; exact HO.out, HB.out⟩
end Go.Proofs.Ytliockcbnmbhnaa
