/-
  Which holes are taken for so many blocks. Conditions: the row of holes reads as it is said to, and there are as many.
-/
import Derived.Test.YtliockcbnmbhnaaTa
namespace Go.Proofs.Ytliockcbnmbhnaa
open Go.RowKit Go.BigFrame
set_option linter.unusedSimpArgs false
set_option linter.unusedVariables false
theorem erow_of_own {w : World} {base : Nat} {v : Value} {xs : List (Nat × Nat)} (h : OwnE w base v (natE xs)) (hne : xs ≠ []) : ∃ r c, v = .slice (some ⟨r, 0, none⟩) xs.length c ∧ base ≤ r ∧ xs.length ≤ c ∧ ERow w r xs := by
  have hl : (natE xs).length = xs.length := by simp [natE]
  rcases h.2 with ⟨rfl, h0⟩ | ⟨g, cap, cur, rfl, hb, hh, hn, hm, hs, ht⟩
  · rw [hl] at h0
    exact absurd (List.eq_nil_of_length_eq_zero h0) hne
  · rw [hl] at hn ⊢
    refine ⟨g, cap, rfl, hb, hn, cur, hh, fun k e hk => ?_⟩
    have hk2 : (natE xs)[k]? = some ((e.1 : Int), (e.2 : Int)) := by simp [natE, hk]
    obtain ⟨h1, h2⟩ := extS_at hk2
    rw [← ht] at h1 h2
    rw [List.getElem?_take] at h1 h2
    constructor
    · split at h1
      · simpa using h1
      · cases h1
    · split at h2
      · simpa using h2
      · cases h2
theorem lens_perm {a b : List (Nat × Nat)} (h : a.Perm b) : lens a = lens b := (h.map _).sum_nat
theorem lens_erase {a : List (Nat × Nat)} {e : Nat × Nat} (h : e ∈ a) : lens a = e.2 + lens (a.erase e) := by
  rw [lens_perm (List.perm_cons_erase h)]
  simp [lens]
theorem lens_pos {a : List (Nat × Nat)} (h : 0 < lens a) : 0 < a.length := by
  cases a with
  | nil => simp [lens] at h
  | cons e a => simp
theorem choose_zero (v : Value) (w : World) : Calls Try.prog 27 #[v, .int .i64 0] w fun e' w' => e' = .returned (.slice none 0 0) ∧ Below w.heap.size w w' := by
  go_enter Try.func27, Try.ntmps27
  go_wp2
  go_ret
  exact ⟨rfl, (Below.refl _ _).alloc (Nat.le_refl _) _⟩
def slLen : Value → Nat
  | .slice _ n _ => n
  | _ => 0
/-- in the midst of it: the memory -/
structure Mid (w wr : World) (r c : Nat) (v : Value) (m : Nat) (l ys : List (Nat × Nat)) : Prop where
  at_ : HAt wr (w.heap.size + 1) r c ys
  num : Blk wr w.heap.size 3 #[.int .i64 (m : Int)]
  own : OwnE wr (w.heap.size + 2) v (natE l)
  only : Only [r] w wr
  size : w.heap.size + 2 ≤ wr.heap.size
theorem OwnE.apart {w w' : World} {base : Nat} {v : Value} {l : List (Int × Int)} (h : OwnE w base v l) (hs : ∀ k, base ≤ k → k < w.heap.size → w'.heap[k]? = w.heap[k]?) : OwnE w' base v l :=
  row_of h fun k hk => hs k (World.ownsRow.lt h k (mem_rowOf.1 hk)).1 (World.ownsRow.lt h k (mem_rowOf.1 hk)).2
theorem Mid.below {w wr wx : World} {r c m : Nat} {v : Value} {l ys : List (Nat × Nat)} (h : Mid w wr r c v m l ys) (b : Below wr.heap.size wr wx) : Mid w wx r c v m l ys :=
  ⟨h.at_.below b, h.num.of (b.block _ h.num.lt), h.own.apart fun k _ hk => b.block k hk, h.only.trans (Only.of_below b _) (Fresh.refl _ _), Nat.le_trans h.size b.size⟩
theorem Mid.drew {w wr : World} {r c m : Nat} {v : Value} {l ys : List (Nat × Nat)} (h : Mid w wr r c v m l ys) : Mid w wr.drew r c v m l ys := h.below (Below.refl _ _).drew
theorem Mid.grown {w wr wx : World} {r c m : Nat} {v v' : Value} {l l' ys : List (Nat × Nat)} (h : Mid w wr r c v m l ys) (hr : r < w.heap.size) (g : wr.grownBy wx v.ownBlock) (o : OwnE wx (w.heap.size + 2) v' (natE l')) : Mid w wx r c v' m l' ys := by
  have hv := World.ownsRow.lt h.own
  have hk : ∀ k, k < w.heap.size + 2 → wx.heap[k]? = wr.heap[k]? := fun k hk => g.block k (Nat.lt_of_lt_of_le hk h.size) (fun e => by have := (hv k e.symm).1; omega)
  exact ⟨h.at_.of (hk _ (by omega)) (hk _ (by omega)), h.num.of (hk _ (by omega)), o, h.only.grown g (fun k e => .inr (by have := (hv k e).1; omega)), Nat.le_trans h.size g.size⟩
theorem Mid.heap {w wr wx : World} {r c m : Nat} {v : Value} {l ys ys' : List (Nat × Nat)} (h : Mid w wr r c v m l ys) (hr : r < w.heap.size) (o : Only [w.heap.size + 1, r] wr wx) (ha : HAt wx (w.heap.size + 1) r c ys') : Mid w wx r c v m l ys' :=
  ⟨ha, h.num.of (o.block _ h.num.lt (by simp; omega)), h.own.apart fun k hk hk2 => o.block k hk2 (by simp; omega), h.only.trans o (fun k hk => by simp at hk ⊢; rcases hk with rfl | rfl <;> omega), Nat.le_trans h.size o.size⟩
theorem Mid.sets {w wr : World} {r c m : Nat} {v : Value} {l ys : List (Nat × Nat)} (h : Mid w wr r c v m l ys) (hr : r < w.heap.size) (m' : Nat) : Mid w (wr.setCell ⟨w.heap.size, 0, none⟩ (.int .i64 (m' : Int))) r c v m' l ys := by
  have hk : ∀ k, k ≠ w.heap.size → (wr.setCell ⟨w.heap.size, 0, none⟩ (.int .i64 (m' : Int))).heap[k]? = wr.heap[k]? := fun k hk => Below.heap_setCell _ _ _ _ hk
  exact ⟨h.at_.of (hk _ (by omega)) (hk _ (by omega)), h.num.set_ 0 _, h.own.apart fun k h1 _ => hk k (by omega), h.only.setCell (.inr (Nat.le_refl _)) _, by rw [show (wr.setCell ⟨w.heap.size, 0, none⟩ (.int .i64 (m' : Int))).heap.size = wr.heap.size by simp [World.setCell]]; exact h.size⟩
/-- in the midst of it: the numbers -/
structure Way (n : Nat) (xs : List (Nat × Nat)) (m : Nat) (l ys : List (Nat × Nat)) : Prop where
  from_ : HFrom ys ys.length 0
  pos : 0 < m
  less : m ≤ n
  room : m ≤ lens ys
  len : l.length + ys.length = xs.length
  inv : ∀ rest, Chosen ys m rest → Chosen xs n (l ++ rest)
theorem Way.step {n m : Nat} {xs l ys ys' : List (Nat × Nat)} (h : Way n xs m l ys) (hlt : (gx ys 0).2 < m) (hp : ys'.Perm (ys.erase (gx ys 0))) (hf : HFrom ys' ys'.length 0) : Way n xs (m - (gx ys 0).2) (l ++ [gx ys 0]) ys' := by
  have hyp : 0 < ys.length := lens_pos (Nat.lt_of_lt_of_le h.pos h.room)
  have ht := h.from_.is_top hyp
  have h1 := lens_erase ht.1
  have h2 := lens_perm hp
  have h3 := hp.length_eq
  have h4 := List.length_erase_of_mem ht.1
  have h5 := h.room
  have h6 := h.len
  have h7 := h.less
  refine ⟨hf, by omega, by omega, by omega, by simp; omega, fun rest hr => ?_⟩
  rw [List.append_assoc]
  exact h.inv _ (.long ht hlt (hr.perm hp))
set_option maxRecDepth 100000 in
set_option maxHeartbeats 8000000 in
theorem choose_any {w : World} {r c n : Nat} {xs : List (Nat × Nat)} (h : ERow w r xs) (hl : xs.length ≤ 65536) (hcl : xs.length ≤ c) (h0 : 0 < n) (hn : n ≤ lens xs) (hn2 : n ≤ 65536) :
    Calls Try.prog 27 #[.slice (some ⟨r, 0, none⟩) xs.length c, .int .i64 n] w fun e' w' => ∃ v out, e' = .returned v ∧ OwnE w' w.heap.size v (natE out) ∧ Chosen xs n out ∧ Only [r] w w' := by
  have hrl := h.lt
  have z1 : ((w.alloc (.cells #[.int .i64 (n : Int)] 3))).heap.size = w.heap.size + 1 := World.size_alloc _ _
  have z2 : ((w.alloc (.cells #[.int .i64 (n : Int)] 3)).alloc (.cells #[.slice (some ⟨r, 0, none⟩) xs.length c] 79)).heap.size = w.heap.size + 2 := by rw [World.size_alloc, z1]
  have e1 : ERow ((w.alloc (.cells #[.int .i64 (n : Int)] 3)).alloc (.cells #[.slice (some ⟨r, 0, none⟩) xs.length c] 79)) r xs := h.of ((Below.heap_alloc _ _ _ (by omega)).trans (Below.heap_alloc _ _ _ hrl))
  have hb : Blk ((w.alloc (.cells #[.int .i64 (n : Int)] 3)).alloc (.cells #[.slice (some ⟨r, 0, none⟩) xs.length c] 79)) (w.heap.size + 1) 79 #[.slice (some ⟨r, 0, none⟩) xs.length c] := by
    have := Blk.new (w.alloc (.cells #[.int .i64 (n : Int)] 3)) 79 #[.slice (some ⟨r, 0, none⟩) xs.length c]
    rwa [z1] at this
  have hnb : Blk ((w.alloc (.cells #[.int .i64 (n : Int)] 3)).alloc (.cells #[.slice (some ⟨r, 0, none⟩) xs.length c] 79)) w.heap.size 3 #[.int .i64 (n : Int)] := (Blk.new w _ _).alloc _
  have ho : Below w.heap.size w ((w.alloc (.cells #[.int .i64 (n : Int)] 3)).alloc (.cells #[.slice (some ⟨r, 0, none⟩) xs.length c] 79)) := ((Below.refl _ _).alloc (Nat.le_refl _) _).alloc (by rw [z1]; omega) _
  have hat : HAt ((w.alloc (.cells #[.int .i64 (n : Int)] 3)).alloc (.cells #[.slice (some ⟨r, 0, none⟩) xs.length c] 79)) (w.heap.size + 1) r c xs := ⟨hb, e1, hcl, hl⟩
  have HI := Lib.hid (init_any hat)
  have HX := Lib.hid (And.intro hnb (And.intro ho z2))
  have hd0 : ((n : Int) == 0) = false := by simp; omega
  clear h z1 z2 e1 hb hnb ho hat
  go_enter Try.func27, Try.ntmps27
  go_wp2_with fail
  refine HI.out.mono ?_
  rintro e1 w1 ⟨rfl, ys1, ha1, hp1, hf1, ho1⟩
  have hnb1 := HX.out.1.of (ho1.block _ HX.out.1.lt (by simp; omega))
  have hw1 : Only [r] w w1 := (Only.of_below HX.out.2.1 [r]).trans ho1 (fun k hk => by simp at hk ⊢; rcases hk with rfl | rfl <;> omega)
  have HS := Lib.hid (And.intro ha1 (And.intro hp1 (And.intro hf1 (And.intro hnb1 hw1))))
  clear HI HX ha1 hp1 hf1 ho1 hnb1 hw1
  go_wp2_with fail
  go_loopw [5] (fun v wr => ∃ (m : Nat) (l ys : List (Nat × Nat)), Mid w wr r c v m l ys ∧ Way n xs m l ys) (fun v _ => xs.length + 1 - slLen v)
  case atStart =>
    have hx := HS.out
    exact ⟨n, [], ys1, ⟨hx.1, hx.2.2.2.1, OwnE.nil _ _, hx.2.2.2.2, by have := hx.1.box.lt; omega⟩, ⟨hx.2.2.1, h0, Nat.le_refl _, by rw [lens_perm hx.2.1]; exact hn, by simp [hx.2.1.length_eq], fun rest hr => hr.perm hx.2.1⟩⟩
  case round =>
    obtain ⟨m, l, ys, hm, hy⟩ := hrel
    obtain ⟨wo, hwo⟩ : ∃ wo, wo = wr := ⟨_, rfl⟩
    subst hwo
    have HM := Lib.hid hm
    have HY := Lib.hid hy
    have hlen := hy.len
    have hm0 := hy.pos
    have hmn := hy.less
    have hyp : 0 < ys.length := lens_pos (Nat.lt_of_lt_of_le hy.pos hy.room)
    obtain ⟨A1, cap, rfl, hA1⟩ := hm.own.form
    have hnl : (natE l).length = l.length := by simp [natE]
    rw [hnl] at HM ⊢
    have q0 := hm.num.cell 0
    have q1 := hm.at_.cell
    obtain ⟨c0, c1, -, -⟩ := hm.at_.row.get (gx_some hyp)
    simp only [List.getElem?_toArray, List.getElem?_cons_zero, Nat.zero_mul, Nat.zero_add] at q0 c0 c1
    clear hm hA1 hnl hy HS
    by_cases hlt : (gx ys 0).2 < m
    · have hd : decide (((gx ys 0).2 : Int) < (m : Int)) = true := decide_eq_true (by omega)
      have HMd := Lib.hid HM.out.drew
      have HP := Lib.hid (pop_any HMd.out.at_ HY.out.from_ hyp)
      have hws : IntKind.i64.wrap ((m : Int) - ((gx ys 0).2 : Int)) = ((m - (gx ys 0).2 : Nat) : Int) := by rw [IntKind.wrap_i64]; omega
      clear HM
      go_wp2_with fail
      go_region
      all_goals
        clear q0 q1 c0 c1
        generalize wo.drew = w1 at *
        go_wp2_with fail
        refine HP.out.mono ?_
        rintro e2 w2 ⟨rfl, ys2, ha2, hp2, hf2, ho2⟩
        have HM2 := Lib.hid (HMd.out.heap hrl ho2 ha2)
        have HW := Lib.hid (HY.out.step hlt hp2 hf2)
        have hsz2 := HM2.out.size
        have HM4 := Lib.hid (HM2.out.below (((Below.refl _ _).alloc (Nat.le_refl _) (.cells #[.int .i64 ((gx ys 0).1 : Int), .int .i64 ((gx ys 0).2 : Int)] 45)).alloc (by rw [World.size_alloc]; omega) (.cells (ext1 (((gx ys 0).1 : Int), ((gx ys 0).2 : Int))).toArray 45)))
        have hex := ext_new (w2.alloc (.cells #[.int .i64 ((gx ys 0).1 : Int), .int .i64 ((gx ys 0).2 : Int)] 45)) (((gx ys 0).1 : Int), ((gx ys 0).2 : Int))
        rw [World.size_alloc] at hex
        have hB7 : Blk ((w2.alloc (.cells #[.int .i64 ((gx ys 0).1 : Int), .int .i64 ((gx ys 0).2 : Int)] 45)).alloc (.cells (ext1 (((gx ys 0).1 : Int), ((gx ys 0).2 : Int))).toArray 45)) w2.heap.size 45 #[.int .i64 ((gx ys 0).1 : Int), .int .i64 ((gx ys 0).2 : Int)] := (Blk.new w2 _ _).alloc _
        have hv2 : ∀ k, (Value.slice A1 l.length cap).ownBlock = some k → k < w2.heap.size := fun k hk => (World.ownsRow.lt HM2.out.own k hk).2
        have HE := Lib.hid (And.intro hex (And.intro hB7 hv2))
        have hta : ∀ w, (Instr.typeAssert (.iface 45 (.agg #[.int .i64 ((gx ys 0).1 : Int), .int .i64 ((gx ys 0).2 : Int)])) 20 45 false).run Try.prog w = .ok (.agg #[.int .i64 ((gx ys 0).1 : Int), .int .i64 ((gx ys 0).2 : Int)]) w := fun w => by kernel_rfl
        have hbe := build_ext (((gx ys 0).1 : Int), ((gx ys 0).2 : Int))
        clear HP HMd ha2 hp2 hf2 ho2 hex hB7 hv2
        go_wp2_with (refine app_ext (.tmp 23) (.tmp 25) rfl rfl (w.heap.size + 2) (.slice A1 l.length cap) (natE l) rfl HM4.out.own (w2.heap.size + 1 + 1) _ 1 1 [(((gx ys 0).1 : Int), ((gx ys 0).2 : Int))] rfl rfl HE.out.1 (by simp [natE]; omega) (by rw [World.size_alloc, World.size_alloc]; omega) ?_; intro v5 w5 h5 g5 a5; have hm5 : Mid w w5 r c v5 m (l ++ [gx ys 0]) ys2 := HM4.out.grown hrl g5 (by simpa [natE] using h5); have q5 : w5.cell? ⟨w.heap.size, 0, none⟩ = some (.int .i64 (m : Int)) := hm5.num.cell 0; have f5 : w5.frozen? ⟨w.heap.size, 0, none⟩ = false := hm5.num.frozen 0; have b7 : Blk w5 w2.heap.size 45 #[.int .i64 ((gx ys 0).1 : Int), .int .i64 ((gx ys 0).2 : Int)] := HE.out.2.1.of (g5.block _ (by rw [World.size_alloc, World.size_alloc]; omega) (fun e => by have := HE.out.2.2 _ e.symm; omega)); have q7 : w5.cell? ⟨w2.heap.size, 1, none⟩ = some (.int .i64 ((gx ys 0).2 : Int)) := b7.cell 1; have HM5 := Lib.hid hm5; clear hm5 h5 g5 a5 b7)
        obtain ⟨A6, cap6, rfl, -⟩ := HM5.out.own.form
        have HM6 := Lib.hid (HM5.out.sets hrl (m - (gx ys 0).2))
        go_roundw
        case rel => exact ⟨_, _, _, HM6.out, HW.out⟩
        case measure =>
          simp only [slLen, natE, List.length_map, List.length_append, List.length_singleton]
          omega
    · have hd : decide (((gx ys 0).2 : Int) < (m : Int)) = false := decide_eq_false (by omega)
      have HMd := Lib.hid HM.out.drew
      have HSH := Lib.hid (shortest_any (n := m) HMd.out.at_.row HMd.out.at_.lim HMd.out.at_.cap (HMd.out.num.cell 0) HMd.out.num.lt (by omega) ⟨gx ys 0, (HY.out.from_.is_top hyp).1, by omega⟩)
      unfold fitsV at HSH
      have r1 : wo.drew.cell? ⟨w.heap.size + 1, 0, none⟩ = some (.slice (some ⟨r, 0, none⟩) ys.length c) := q1
      clear HM
      go_wp2_with fail
      go_region
      all_goals
        clear q0 q1 c0 c1
        generalize wo.drew = w1 at *
        go_wp2_with fail
        refine HSH.out.mono ?_
        rintro e2 w2 ⟨⟨b, rfl, hfit⟩, ho2⟩
        have hlim := HMd.out.at_.lim
        have ha2 : HAt w1 (w.heap.size + 1) r c ys := HMd.out.at_
        have HB2 := Lib.hid (HMd.out.num.of (ho2.block _ HMd.out.num.lt (by simp; omega)))
        have HO2 := Lib.hid (HMd.out.own.apart (w' := w2) fun k hk hk2 => ho2.block k hk2 (by simp; omega))
        have HW2 := Lib.hid (HMd.out.only.trans ho2 (Fresh.refl _ _))
        have HF := Lib.hid (HY.out.inv _ (.fit hm0 hfit))
        have hsz2 := Nat.le_trans HMd.out.size ho2.size
        have q2 : w2.cell? ⟨w.heap.size, 0, none⟩ = some (.int .i64 (m : Int)) := HB2.out.cell 0
        unfold exV
        have hbe := build_ext ((b.1 : Int), (m : Int))
        have hq2 : ∀ o, (w2.alloc o).cell? ⟨w.heap.size, 0, none⟩ = some (.int .i64 (m : Int)) := fun o => (World.cell?_alloc_lt _ _ _ HB2.out.lt).trans q2
        have hex := ext_new (w2.alloc (.cells #[.int .i64 (b.1 : Int), .int .i64 (b.2 : Int)] 45)) ((b.1 : Int), (m : Int))
        rw [World.size_alloc] at hex
        have ho4 : OwnE ((w2.alloc (.cells #[.int .i64 (b.1 : Int), .int .i64 (b.2 : Int)] 45)).alloc (.cells (ext1 ((b.1 : Int), (m : Int))).toArray 45)) (w.heap.size + 2) (.slice A1 l.length cap) (natE l) := HO2.out.apart fun k _ hk => (Below.heap_alloc _ _ _ (by rw [World.size_alloc]; omega)).trans (Below.heap_alloc _ _ _ hk)
        have hw4 : Only [r] w ((w2.alloc (.cells #[.int .i64 (b.1 : Int), .int .i64 (b.2 : Int)] 45)).alloc (.cells (ext1 ((b.1 : Int), (m : Int))).toArray 45)) := (HW2.out.alloc _).alloc _
        have HE := Lib.hid (And.intro hex (And.intro ho4 hw4))
        clear HMd HSH r1 hfit ho2 ha2 hex ho4 hw4
        go_wp2_with (refine app_ext (.tmp 34) (.tmp 39) rfl rfl (w.heap.size + 2) (.slice A1 l.length cap) (natE l) rfl HE.out.2.1 (w2.heap.size + 1 + 1) _ 1 1 [((b.1 : Int), (m : Int))] rfl rfl HE.out.1 (by simp [natE]; omega) (by rw [World.size_alloc, World.size_alloc]; omega) ?_; intro v5 w5 h5 g5 a5)
        have ho5 : Only [r] w w5 := HE.out.2.2.grown g5 (fun k e => .inr (by have := (World.ownsRow.lt HO2.out k e).1; omega))
        go_ret
        exact ⟨v5, l ++ [(b.1, m)], rfl, OwnE.weaken (base := w.heap.size + 2) (by simpa [natE] using h5) (by omega), HF.out, ho5⟩
end Go.Proofs.Ytliockcbnmbhnaa
