/-
  What an object shows at the snapshots made on the way, told in two maps. No condition but the sizes.
-/
import Derived.Test.YtjepfeagbiceoaaQy
namespace Go.Proofs.Ytjepfeagbiceoaa
open Go.RowKit Go.BigFrame
set_option linter.unusedSimpArgs false
set_option linter.unusedVariables false
set_option maxRecDepth 100000
def At1 (w : World) (h : Option (List Nat)) (e : Ending) (w' : World) : Prop := ∃ (A : Option Addr) (c : Nat), e = .returned (.tuple #[.slice A (h.getD []).length c, .bool h.isSome]) ∧ Own w' w.heap.size (.slice A (h.getD []).length c) (h.getD []).length (h.getD []) ∧ (∀ b ∈ h.getD [], b < 256) ∧ Below w.heap.size w w'
theorem at1_any {w : World} (o : OA) (s : Int) (h : o.R w) (hS : o.Sm) (hg : Good o.v) (hs : 0 ≤ s) : Calls Try.prog 23 #[.agg o.cs, .int .i64 s] w (At1 w (atO o.v s)) := (sat_any o s h hS).mono fun e w' h => by
  obtain ⟨hb, ⟨d, v, _, _, e1, rfl, hv, hd⟩ | ⟨hn, rfl⟩⟩ := h
  · rw [e1]
    obtain ⟨D, c, rfl, -⟩ := hv.form
    exact ⟨D, c, rfl, hv, hd, hb⟩
  · rw [hn hg hs]
    exact ⟨none, 0, rfl, Own.nil _ _, fun b hb => (by cases hb), hb⟩
def downI : Nat → List Int
  | 0 => []
  | n + 1 => ((n : Int) + 1) :: downI n
theorem downI_len : ∀ n, (downI n).length = n
  | 0 => rfl
  | n + 1 => by rw [downI, List.length_cons, downI_len n]
theorem downI_mem : ∀ {n : Nat} {s : Int}, s ∈ downI n ↔ 1 ≤ s ∧ s ≤ n
  | 0, s => by simp [downI]; omega
  | n + 1, s => by rw [downI, List.mem_cons, downI_mem]; omega
theorem downI_up : ∀ n, (downI n).reverse.Pairwise (· < ·)
  | 0 => List.Pairwise.nil
  | n + 1 => by
    rw [downI, List.reverse_cons, List.pairwise_append]
    exact ⟨downI_up n, List.pairwise_singleton _ _, fun a ha b hb => by
      rw [List.mem_reverse] at ha
      have := (downI_mem.1 ha).2
      simp at hb
      omega⟩
theorem downI_cx {n : Nat} (h : n ≤ 16) : CxG ⟨n, downI n⟩ := ⟨by show (0 : Int) ≤ n; omega, by show (downI n).length ≤ 16; rw [downI_len]; exact h, downI_up n, fun s hs => by have := downI_mem.1 hs; exact ⟨by omega, this.2⟩⟩
theorem seeO_at {o : OV} {c : CxV} (hg : Good o) (hc : CxG c) (hq : o.sq ≤ c.sq) {s : Int} (hs : s ∈ c.sn) : atO (seeO o c) s = atO o s := by
  cases ht : o.th with
  | true =>
    have h := see_at hg hc hq s hs (some o.dt)
    have e : withHead (seeO o c) (some o.dt) = seeO o c := by simp [withHead, seeO, ht]
    rwa [e] at h
  | false =>
    have h := see_at hg hc hq s hs none
    have e : withHead (seeO o c) none = seeO o c := by simp [withHead, seeO, ht, hg.th ht]
    rwa [e] at h
theorem ChR.at_ {o x : OV} {c : CxV} {km k : Nat} {hd : Option (List Nat)} (h : ChR o c km hd x k) (hk : k = 0) {s : Int} (hs : s ∈ c.sn) : atO x s = atO o s := by
  cases h with
  | bad _ => cases hk
  | ctx _ _ => cases hk
  | may _ _ _ h => exact absurd hk h
  | many _ _ _ _ _ => cases hk
  | ok h1 h2 h3 h4 h5 => exact see_at h1 h2 h3 s hs hd
theorem opR.at_ {o x : OV} {kd a n : Int} {dt : List Nat} {c : CxV} {k : Nat} (h : opR o kd a n dt c x k) (hk : k = 0) (h1 : 1 ≤ kd) (h5 : kd ≤ 5) {s : Int} (hs : s ∈ c.sn) : atO x s = atO o s := by
  unfold opR at h
  split at h
  · exact h.at_ hk hs
  split at h
  · exact h.at_ hk hs
  split at h
  · exact h.at_ hk hs
  split at h
  · exact h.at_ hk hs
  split at h
  · exact h.at_ hk hs
  · omega
theorem at_zero {x : OV} (hg : Good x) : atO x 0 = if x.th = true then some x.dt else none := by
  have h : atC x.cl 0 = none := atC_none.2 fun hm => by have := hg.lim 0 hm; omega
  unfold atO
  rw [h]
  simp [headAt]
theorem at_new {x : OV} (hg : Good x) {s : Int} (hs : x.sq < s) : atO x s = atO x 0 := by
  rw [at_zero hg]
  have h : atC x.cl s = none := atC_none.2 fun hm => by have := hg.lim s hm; omega
  unfold atO
  rw [h]
  simp only [headAt]
  by_cases ht : x.th = true
  · rw [if_pos ⟨ht, fun h => by omega⟩, if_pos ht]
  · rw [if_neg (fun h => ht h.1), if_neg ht]
theorem back_ok {o x : OV} {k j : Nat} {s : Int} (hg : Good o) (h16 : j ≤ 16) (hq : o.sq ≤ j) (h1 : 1 ≤ s) (h2 : s ≤ j) (h : ChR o ⟨j, downI j⟩ (backK ⟨j, downI j⟩ s) (atO (seeO o ⟨j, downI j⟩) s) x k) : k = 0 ∧ Good x ∧ atO x 0 = atO o s := by
  have hc := downI_cx h16
  have hm : s ∈ (CxV.mk (j : Int) (downI j)).sn := downI_mem.2 ⟨h1, h2⟩
  have hf := see_few hg hc hq
  have hb : backK ⟨j, downI j⟩ s = 0 := by unfold backK; rw [if_pos (by simpa using hm)]
  have h16' : (seeO o ⟨j, downI j⟩).cl.length ≤ 16 := by have : ((seeO o ⟨j, downI j⟩).cl.length : Int) ≤ (j : Int) := hf; omega
  obtain ⟨hx, hk⟩ := h.one (.ok hg hc hq hb h16')
  have hgx := (h.good hk (fun _ _ hs d e => atO_len e hs)).1
  refine ⟨hk, hgx, ?_⟩
  rw [at_zero hgx, ← seeO_at hg hc hq hm, hx]
  cases atO (seeO o ⟨j, downI j⟩) s <;> rfl
/-! ### told in maps -/
def Told (v : OV) (n : Nat) (f1 f2 : Int → Option Value) : Prop := ∀ s : Int, 1 ≤ s → s ≤ n → f1 s = some (.string (strOf ((atO v s).getD []))) ∧ f2 s = some (.bool (atO v s).isSome)
theorem Told.same {v x : OV} {n : Nat} {f1 f2 : Int → Option Value} (h : Told v n f1 f2) (he : ∀ s ∈ downI n, atO x s = atO v s) : Told x n f1 f2 := fun s h1 h2 => by
  rw [he s (downI_mem.2 ⟨h1, h2⟩)]
  exact h s h1 h2
theorem Told.snap {v : OV} {n : Nat} {f1 f2 : Int → Option Value} (h : Told v n f1 f2) (hg : Good v) (hq : v.sq ≤ n) :
    Told v (n + 1) (fun s => if s = (n : Int) + 1 then some (.string (strOf ((atO v 0).getD []))) else f1 s) (fun s => if s = (n : Int) + 1 then some (.bool (atO v 0).isSome) else f2 s) := fun s h1 h2 => by
  by_cases e : s = (n : Int) + 1
  · simp only [if_pos e]
    rw [at_new hg (s := s) (by omega)]
    exact ⟨rfl, rfl⟩
  · simp only [if_neg e]
    exact h s h1 (by omega)
structure Hst (w : World) (g : Nat) (q : OA) (j : Nat) (S : Option Addr) (c : Nat) (f1 f2 : Int → Option Value) (wr : World) : Prop where
  f : Fgt w g q (downI j) S c wr
  m1 : MapAt wr (g + 2) f1
  m2 : MapAt wr (g + 3) f2
  told : Told q.v j f1 f2
section
variable {w wr wr' : World} {g j c : Nat} {q : OA} {S : Option Addr} {f1 f2 : Int → Option Value}
theorem Hst.next (h : Hst w g q j S c f1 f2 wr) (hb : Below wr.heap.size wr wr') : Hst w g q j S c f1 f2 wr' :=
  ⟨h.f.next hb, h.m1.of (hb.block _ h.m1.lt), h.m2.of (hb.block _ h.m2.lt), h.told⟩
theorem Hst.j16 (h : Hst w g q j S c f1 f2 wr) : j ≤ 16 := by have := h.f.l16; rwa [downI_len] at this
theorem Hst.sq (h : Hst w g q j S c f1 f2 wr) : q.sq ≤ j := by have := h.f.sq; rwa [downI_len] at this
theorem Hst.bc (h : Hst w g q j S c f1 f2 wr) : Blk wr (g + 1) 28 #[.int .i64 (j : Int), .slice S j c] := by have := h.f.bc; rwa [downI_len] at this
theorem Hst.ctx (h : Hst w g q j S c f1 f2 wr) : OwnI wr w.heap.size (.slice S j c) j (downI j) := by have := h.f.ctx; rwa [downI_len] at this
theorem Hst.x (h : Hst w g q j S c f1 f2 wr) : XA.R ⟨j, downI j, S, c⟩ wr := by have := h.f.x; rwa [downI_len] at this
theorem Hst.put {q' : OA} (h : Hst w g q j S c f1 f2 wr) (hN : q'.N wr w.heap.size) (hS : q'.Sm) (hg : Good q'.v) (hq : q'.sq ≤ j) (he : ∀ s ∈ downI j, atO q'.v s = atO q.v s) (ho : Only [g] wr wr') (K : Blk wr' g 36 #[.bool q'.th, .slice q'.D q'.dt.length q'.cd, .int .i64 q'.sq, .slice q'.C q'.cl.length q'.cc]) : Hst w g q' j S c f1 f2 wr' :=
  ⟨h.f.put hN hS hg (by rw [downI_len]; exact hq) ho K, h.m1.of (ho.block _ h.m1.lt (by simp)), h.m2.of (ho.block _ h.m2.lt (by simp)), h.told.same he⟩
end
theorem wp_update {P : Program} {o : Oper} {a : Act} {w w' : World} {K : Act → World → Prop} {Q : Exit → Act → World → Prop} (t : TypeId) (m x y : Operand) (hop : o.op = Op.mapUpdate t m x y) (g : Nat) (k : Int) (v : Value)
    (hm : a.eval m = .map (some g)) (hx : a.eval x = .int .i64 k) (hy : a.eval y = v) (hr : (Instr.mapUpdate t (.map (some g)) (.int .i64 k) v).run P w = .ok () w') (h : K (a.put o.dst undef) w') : o.wp P a w K Q := by
  unfold Oper.wp execOp
  simp only [hop, hm, hx, hy, Sem.run_bind, Sem.run_pure, Result.andThen_ok, hr]
  exact h
end Go.Proofs.Ytjepfeagbiceoaa
