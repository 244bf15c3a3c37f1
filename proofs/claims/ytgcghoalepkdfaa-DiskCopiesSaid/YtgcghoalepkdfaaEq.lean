/-
  Arrays of bytes held against each other. No condition.
-/
import Derived.Test.YtgcghoalepkdfaaFacts
import Derived.Laws.StructEq
namespace Go.Proofs.Ytgcghoalepkdfaa
open Go.RowKit
theorem eq_loop (P : Program) (e : TypeId) (d : Nat) (a b : List Nat) (hl : a.length = b.length) (he : P.underlying e = some (.int .u8))
    (hp : ∀ (w : World) (cs : Array Value) (i v : Nat), cs[i]? = some (.int .u8 (v : Int)) → (Go.part e cs i).run P w = .ok (.int .u8 (v : Int)) w) (w : World) : ∀ m s, s + m = a.length →
    (Sem.run P (forIn (List.range' s m 1) (none, ()) fun i (_ : Option Bool × Unit) => do
        let x ← Go.part e (u8s a).toArray (i * 1)
        let y ← Go.part e (u8s b).toArray (i * 1)
        let r ← Op.equalIn (d + 1) e x y
        if (!r) = true then pure (ForInStep.done (some false, ())) else pure (ForInStep.yield (none, ()))) w) = .ok (if a.drop s = b.drop s then (none, ()) else (some false, ())) w
  | 0, s, h => by
    rw [List.drop_of_length_le (by omega), List.drop_of_length_le (by omega)]
    simp
  | m + 1, s, h => by
    have h1 : s < a.length := by omega
    have h2 : s < b.length := by omega
    have pa := hp w (u8s a).toArray s (a[s]) (by simp [u8s, u8, h1])
    have pb := hp w (u8s b).toArray s (b[s]) (by simp [u8s, u8, h2])
    have ih := eq_loop P e d a b hl he hp w m (s + 1) (by omega)
    rw [List.range'_succ, List.forIn_cons]
    simp only [Nat.mul_one] at ih ⊢
    simp only [Sem.run_bind, pa, pb, Result.andThen_ok, run_equalIn_int w d e .u8 .u8 _ _ he]
    have hd : (a.drop s = b.drop s) ↔ (a[s] = b[s] ∧ a.drop (s + 1) = b.drop (s + 1)) := by
      rw [List.drop_eq_getElem_cons h1, List.drop_eq_getElem_cons h2, List.cons.injEq]
    by_cases hx : a[s] = b[s]
    · have hb : (((a[s] : Nat) : Int) == ((b[s] : Nat) : Int)) = true := by rw [hx]; simp
      rw [hb]
      simp only [Bool.not_true, Bool.false_eq_true, if_false, Sem.run_pure, Result.andThen_ok]
      rw [ih]
      by_cases hy : a.drop (s + 1) = b.drop (s + 1)
      · rw [if_pos hy, if_pos (hd.2 ⟨hx, hy⟩)]
      · rw [if_neg hy, if_neg (fun h => hy (hd.1 h).2)]
    · have hb : (((a[s] : Nat) : Int) == ((b[s] : Nat) : Int)) = false := by simp; omega
      rw [hb, if_neg (fun h => hx (hd.1 h).1)]
      simp
theorem run_equalIn_bytes (P : Program) (t e : TypeId) (d : Nat) (a b : List Nat) (w : World) (ht : P.underlying t = some (.array a.length e)) (he : P.underlying e = some (.int .u8)) (hs : (sizeOf e).run P w = .ok 1 w) (hl : a.length = b.length)
    (hp : ∀ (w : World) (cs : Array Value) (i v : Nat), cs[i]? = some (.int .u8 (v : Int)) → (Go.part e cs i).run P w = .ok (.int .u8 (v : Int)) w) :
    (Op.equalIn (d + 1 + 1) t (.agg (u8s a).toArray) (.agg (u8s b).toArray)).run P w = .ok (a == b) w := by
  have h0 := eq_loop P e d a b hl he hp w a.length 0 (by omega)
  rw [Op.equalIn]
  simp only [Sem.run_bind, run_underlying ht, Result.andThen_ok, hs]
  rw [Std.Legacy.Range.forIn_eq_forIn_range']
  simp only [Std.Legacy.Range.size] at h0 ⊢
  simp only [Nat.sub_zero, Nat.div_one, Nat.add_one_sub_one] at h0 ⊢
  rw [h0]
  simp only [List.drop_zero]
  by_cases hx : a = b
  · simp [hx]
  · simp [hx]
theorem byte_part (w : World) (cs : Array Value) (i v : Nat) (h : cs[i]? = some (.int .u8 (v : Int))) : (Go.part 5 cs i).run Try.prog w = .ok (.int .u8 (v : Int)) w := by
  have hu := Try.underlying5
  simp [Go.part, isAgg, run_underlying hu, h]
theorem byte_one (w : World) : (sizeOf 5).run Try.prog w = .ok 1 w := by kernel_rfl
def secEq (s t : Sec) : Bool := s.l == t.l
theorem secEq_iff (s t : Sec) : secEq s t = true ↔ s = t := by
  unfold secEq
  rw [beq_iff_eq]
  exact ⟨Sec.ext_, fun h => by rw [h]⟩
theorem secEq_same (s : Sec) : secEq s s = true := (secEq_iff s s).2 rfl
theorem run_sec_in (s t : Sec) (w : World) : (Op.equalIn 10000 47 (.agg s.cs.toArray) (.agg t.cs.toArray)).run Try.prog w = .ok (secEq s t) w := by
  have := run_equalIn_bytes Try.prog 47 5 9998 s.l t.l w (by rw [s.len]; exact Try.underlying47) Try.underlying5 (byte_one w) (by rw [s.len, t.len]) byte_part
  unfold Sec.cs
  exact this
theorem run_sec_guard (op : BinOp) (x y : Operand) (a b : Array Value) (w : World) : (eqGuard op 47 x y (.agg a) (.agg b)).run Try.prog w = .ok () w := run_eqGuard_agg w op _ x y a b (by kernel_rfl)
theorem run_sec_eq (s t : Sec) (w : World) : (binOp .eql 47 (.agg s.cs.toArray) (.agg t.cs.toArray)).run Try.prog w = .ok (.bool (secEq s t)) w := by
  rw [run_eql_struct]
  have := run_equalIn_bytes Try.prog 47 5 9998 s.l t.l w (by rw [s.len]; exact Try.underlying47) Try.underlying5 (byte_one w) (by rw [s.len, t.len]) byte_part
  unfold Sec.cs
  rw [this]
  rfl
theorem run_sec_neq (s t : Sec) (w : World) : (binOp .neq 47 (.agg s.cs.toArray) (.agg t.cs.toArray)).run Try.prog w = .ok (.bool (!secEq s t)) w := by
  rw [run_neq_struct]
  have := run_equalIn_bytes Try.prog 47 5 9998 s.l t.l w (by rw [s.len]; exact Try.underlying47) Try.underlying5 (byte_one w) (by rw [s.len, t.len]) byte_part
  unfold Sec.cs
  rw [this]
  rfl
end Go.Proofs.Ytgcghoalepkdfaa
