/-
  The document's spaces: a space with an extent turned. Conditions: rows read as they are said to; the extent lies in the space.
-/
import Derived.Test.YtliockcbnmbhnaaUa
namespace Go.Proofs.Ytliockcbnmbhnaa
open Go.RowKit Go.BigFrame
set_option linter.unusedSimpArgs false
set_option linter.unusedVariables false
theorem app_flags {w : World} {ops : Array Oper} {rest : List Oper} {o : Oper} {a : Act} {Q : Exit → Act → World → Prop} (s x : Operand)
    (hgd : o.guard = none) (ho : o.op = .call { callee := .builtin .append, args := #[s, x], argTypes := #[33, 33] })
    (base : Nat) (v : Value) (l : List Bool) (hs : a.eval s = v) (hown : OwnB w base v l)
    (B : Nat) (A : Option Addr) (m c : Nat) (news : List Bool) (hx : a.eval x = .slice A m c) (hm : m = news.length) (hr : Reads w B 1 A news.length (flagsS news))
    (hsz : l.length + m ≤ 10000000) (hbase : base ≤ w.heap.size)
    (h : ∀ v' w', OwnB w' base v' (l ++ news) → w.grownBy w' v.ownBlock → (v'.ownBlock = v.ownBlock ∨ v'.ownBlock = some w.heap.size) → wpList Try.prog ops Q rest (a.put o.dst v') w') :
    wpList Try.prog ops Q (o :: rest) a w := by
  subst hm
  obtain ⟨i0, hi0, hz0, hz1, hz2⟩ := info_parts bool_info
  refine wpList_append_any _ hgd s x _ ho base 4 i0 _ 1 1 Try.underlying33 hi0 hz0 hz1 hz2 rfl (by omega) v l.length (flagsS l) hs hown B A news.length c (flagsS news) hx hr (flagsS_one _) (by simp [maxLen]; omega) (by omega) hbase ?_
  intro v2 w2 h2 g2 a2
  refine h v2 w2 ?_ g2 a2
  unfold OwnB
  rw [List.length_append, show flagsS (l ++ news) = flagsS l ++ flagsS news from by simp [flagsS]]
  exact h2
theorem ext_box (w : World) : True := trivial
set_option maxRecDepth 100000 in
set_option maxHeartbeats 2000000 in
theorem dwith_any {w : World} {B c : Nat} {A : Option Addr} {fl : List Bool} (x y : Nat) (b : Bool) (hl : fl.length ≤ 65536) (hxy : x + y ≤ fl.length) (hR : Reads w B 1 A fl.length (flagsS fl)) (hB : B ≤ w.heap.size) :
    Calls Try.prog 32 #[.slice A fl.length c, .agg #[.int .i64 (x : Int), .int .i64 (y : Int)], .bool b] w fun e w' => ∃ v, e = .returned v ∧ OwnB w' w.heap.size v (setR fl x y b) ∧ Below w.heap.size w w' := by
  have hbs : ∀ w : World, (Instr.buildSlice 33 0 #[]).run Try.prog w = .ok (.slice (some ⟨w.heap.size, 0, none⟩) 0 0) (w.alloc (.cells #[] 4)) := fun w => by kernel_rfl
  have K1 : Blk (w.alloc (.cells #[.int .i64 (x : Int), .int .i64 (y : Int)] 45)) w.heap.size 45 #[.int .i64 (x : Int), .int .i64 (y : Int)] := Blk.new _ _ _
  have B1 : Below w.heap.size w (w.alloc (.cells #[.int .i64 (x : Int), .int .i64 (y : Int)] 45)) := (Below.refl _ _).alloc (Nat.le_refl _) _
  have R1 : Reads (w.alloc (.cells #[.int .i64 (x : Int), .int .i64 (y : Int)] 45)) B 1 A fl.length (flagsS fl) := hR.alloc hB _
  have s1 : (w.alloc (.cells #[.int .i64 (x : Int), .int .i64 (y : Int)] 45)).heap.size = w.heap.size + 1 := World.size_alloc _ _
  have HX := Lib.hid (And.intro K1 (And.intro B1 R1))
  clear hR K1 B1 R1
  have hown : OwnB ((w.alloc (.cells #[.int .i64 (x : Int), .int .i64 (y : Int)] 45)).alloc (.cells #[] 4)) (w.heap.size + 1) (.slice (some ⟨w.heap.size + 1, 0, none⟩) 0 0) [] := by
    have : OwnB ((w.alloc (.cells #[.int .i64 (x : Int), .int .i64 (y : Int)] 45)).alloc (.cells #[] 4)) (w.alloc (.cells #[.int .i64 (x : Int), .int .i64 (y : Int)] 45)).heap.size (.slice (some ⟨(w.alloc (.cells #[.int .i64 (x : Int), .int .i64 (y : Int)] 45)).heap.size, 0, none⟩) 0 0) [] := World.ownsRow_lit _ #[] 0 (Nat.le_refl _) (by simp [maxLen]) rfl
    rwa [s1] at this
  have HO := Lib.hid hown
  clear hown
  go_enter Try.func32, Try.ntmps32
  go_wp2_with (refine app_flags (.tmp 9) (.tmp 10) rfl rfl (w.heap.size + 1) (.slice (some ⟨w.heap.size + 1, 0, none⟩) 0 0) [] rfl HO.out B _ fl.length _ fl rfl rfl (HX.out.2.2.alloc (by simp <;> omega) _) (by simp <;> omega) (by simp <;> omega) ?_; intro v2 w2 h2 g2 a2; have q0 : w2.cell? ⟨w.heap.size, 0, none⟩ = some (.int .i64 (x : Int)) := ((HX.out.1.alloc _).grown g2 (by simp [Value.ownBlock])).cell 0)
  generalize hr0 : w.heap.size = r0 at *
  generalize w.alloc (.cells #[.int .i64 (x : Int), .int .i64 (y : Int)] 45) = w1 at *
  rw [List.nil_append] at h2
  have K2 : Blk w2 r0 45 #[.int .i64 (x : Int), .int .i64 (y : Int)] := (HX.out.1.alloc _).grown g2 (by simp [Value.ownBlock])
  have B2 : Below r0 w w2 := (HX.out.2.1.alloc (by omega) _).grown g2 (by simp; omega) (fun j hj => by simp [Value.ownBlock] at hj; omega)
  obtain ⟨A2, c2, rfl⟩ := h2.form
  have H2 := Lib.hid (And.intro h2 (And.intro K2 B2))
  clear h2 g2 a2 K2 B2 HO q0
  go_loopw [8] (fun i wr => ∃ k : Nat, k ≤ y ∧ i = .int .i64 ((x + k : Nat) : Int) ∧ OwnB wr (r0 + 1) (.slice A2 fl.length c2) (setR fl x k b) ∧ Blk wr r0 45 #[.int .i64 (x : Int), .int .i64 (y : Int)] ∧ Below r0 w wr) (fun i _ => x + y - (intS i).toNat)
  case atStart => exact ⟨0, by omega, by simp, by rw [setR_zero]; exact H2.out.1, H2.out.2.1, H2.out.2.2⟩
  case round =>
    obtain ⟨k, hk, rfl, ho, hK, hb⟩ := hrel
    have p0 : wr.cell? ⟨r0, 0, none⟩ = some (.int .i64 (x : Int)) := hK.cell 0
    have p1 : wr.cell? ⟨r0, 1, none⟩ = some (.int .i64 (y : Int)) := hK.cell 1
    have hwe : IntKind.i64.wrap ((x : Int) + (y : Int)) = (x : Int) + (y : Int) := by rw [IntKind.wrap_i64]; omega
    have hsl : (setR fl x k b).length = fl.length := setR_len (by omega) b
    by_cases hlt : k < y
    · have hd : decide (((x + k : Nat) : Int) < (x : Int) + (y : Int)) = true := decide_eq_true (by omega)
      obtain ⟨g2, c3, hv, hg1, hg2⟩ := ho.block (by omega)
      rw [hsl] at hv
      injection hv with hA _ hc
      subst hA hc
      obtain ⟨v0, hx⟩ : ∃ v0, (setR fl x k b)[x + k]? = some v0 := ⟨_, List.getElem?_eq_getElem (by omega)⟩
      have ho' : OwnB wr (r0 + 1) (.slice (some ⟨g2, 0, none⟩) (setR fl x k b).length c2) (setR fl x k b) := by rw [hsl]; exact ho
      have q2 : wr.cell? ⟨g2, x + k, none⟩ = some (.bool v0) := (OwnB.cell ho' hx).1
      have q3 : wr.frozen? ⟨g2, x + k, none⟩ = false := (OwnB.cell ho' hx).2
      have hnew := OwnB.set ho' (x + k) b
      rw [setR_succ (by omega), setR_len (by omega)] at hnew
      have hs2 : (⟨g2, 0, none⟩ : Addr).add (x + k) = ⟨g2, x + k, none⟩ := add_zero_off _ _
      have hix : (((x + k : Nat) : Int)).toNat = x + k := by omega
      have hir : decide (((x + k : Nat) : Int) < (fl.length : Int)) = true := decide_eq_true (by omega)
      have hwk : IntKind.i64.wrap (((x + k : Nat) : Int) + 1) = ((x + (k + 1) : Nat) : Int) := by rw [IntKind.wrap_i64]; omega
      have hge : (0 : Int) ≤ ((x + k : Nat) : Int) := by omega
      have hlt2 : ((x + k : Nat) : Int) < (fl.length : Int) := by omega
      have HN := Lib.hid (And.intro hnew (And.intro (hK.far (p := ⟨g2, x + k, none⟩) (by show r0 ≠ g2; omega) (.bool b)) (hb.setCell (p := ⟨g2, x + k, none⟩) (by show r0 ≤ g2; omega) (.bool b))))
      clear ho ho' hb hK hnew hx
      generalize hxk : x + k = m at *
      go_wp2
      go_roundw
      case rel => exact ⟨k + 1, by omega, rfl, HN.out.1, HN.out.2.1, HN.out.2.2⟩
      case measure => simp [intS]; omega
    · obtain rfl : k = y := by omega
      have hd : decide (((x + k : Nat) : Int) < (x : Int) + (k : Int)) = false := decide_eq_false (by omega)
      have HN := Lib.hid (And.intro ho hb)
      clear ho hb
      go_wp2
      go_ret
      rw [hr0]
      refine ⟨_, rfl, ?_, HN.out.2⟩
      exact HN.out.1.weaken (by omega)
end Go.Proofs.Ytliockcbnmbhnaa
