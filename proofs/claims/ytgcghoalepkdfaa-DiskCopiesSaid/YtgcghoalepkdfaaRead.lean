/-
  What the disk's Read returns: the last write of the sector that waits, or else what is sure of it. Conditions: the disk lies where it is said to; no more than a million writes wait.
-/
import Derived.Test.YtgcghoalepkdfaaBack
namespace Go.Proofs.Ytgcghoalepkdfaa
open Go.RowKit Go.Shelf
attribute [local go_sem] Oper.semAt_some
theorem read_results (W : World) (tmps : Array Value) (bs be : Nat) (s : Sec) (e : Value) (h4 : tmps.getD 4 undef = .pointer (some ⟨bs, 0, none⟩)) (h5 : tmps.getD 5 undef = .pointer (some ⟨be, 0, none⟩))
    (h1 : Blk W bs 47 s.cs.toArray) (h2 : Boxed W be 27 e) : (results Try.f21 tmps).run Try.prog W = .ok (.tuple #[s.v, e]) W := by
  have hl := run_loadVar_row (P := Try.prog) W bs 47 47 s.cs.toArray (0, 0) _ h1 Try.underlying47 rfl (by rw [List.size_toArray, s.cs_len]; exact sec_size)
  have hc := h2.cell
  have hr : Try.f21.results = #[.cell 4 47, .cell 5 27] := rfl
  have h4' : tmps[4]?.getD undef = .pointer (some ⟨bs, 0, none⟩) := by simpa using h4
  have h5' : tmps[5]?.getD undef = .pointer (some ⟨be, 0, none⟩) := by simpa using h5
  unfold results
  rw [hr]
  have hv : (loadVar 27 ⟨be, 0, none⟩).run Try.prog W = .ok e W := by simp [go_sem, hc]
  simp [h4', h5', asAddr, hl, hv, Sec.v]
set_option maxRecDepth 100000 in
set_option maxHeartbeats 2000000 in
theorem read_in (w : World) (base g gm : Nat) (v : Value) (d : DM) (i : Int) (h : Lies w base g gm v d) (hw : d.wait.length ≤ 1000000) (hd : d.has i = true) (hg : d.gone = false) :
    CallsIn Fence.wide 5 Try.prog 21 #[.pointer (some ⟨g, 0, none⟩), .int .i64 i] w fun e w' => e = .returned (.tuple #[(d.read i).v, errV (d.readErr i)]) ∧ Below w.heap.size w w' := by
  have hro : Fence.wide.round = none := rfl
  have h1 : 1 ≤ 5 := by omega
  have Hd := Lib.hid hd
  have Hg := Lib.hid hg
  have H := Lib.hid h
  clear hd hg h
  refine callsIn_of_wp_marks Try.func21 rfl trivial ?_ hro
  simp only [Try.ntmps21, List.size_toArray, List.length_cons, List.length_nil, Nat.reduceAdd, Nat.reduceSub, Array.replicate_succ, Array.replicate_zero, List.push_toArray, List.append_toArray, List.nil_append, List.cons_append]
  obtain ⟨Zs, hZ⟩ : ∃ Zs : Array Value, ∀ w, (zeroValue 47).run Try.prog w = .ok (.agg Zs) w := ⟨_, sec_zero⟩
  have hrow := H.out.row
  obtain ⟨A, cap, rfl⟩ : ∃ A cap, v = .slice A d.wait.length cap := by
    rcases hrow.2 with ⟨rfl, hn⟩ | ⟨g', cap, cur, rfl, _⟩
    · rw [hn]; exact ⟨_, _, rfl⟩
    · exact ⟨_, _, rfl⟩
  have Hrow := Lib.hid hrow
  clear hrow
  have hgs := H.out.blk.lt
  obtain ⟨-, -, -, -, -, -, c6, -⟩ := H.out.cells
  have c6' : ∀ o1 o2 o3, (((w.alloc o1).alloc o2).alloc o3).cell? ⟨g, 6, none⟩ = some (.slice A d.wait.length cap) := fun o1 o2 o3 => by
    rw [((((H.out.alloc o1).alloc o2).alloc o3)).blk.cell]; rfl
  have HD := Lib.hid (fun W (hL : Lies W base g gm (.slice A d.wait.length cap) d) => down_any W base g gm _ d hL)
  have HH := Lib.hid (fun W (hL : Lies W base g gm (.slice A d.wait.length cap) d) => has_any W base g gm _ d i hL)
  gi_wp2_with (first
    | (refine ⟨trivial, ?_⟩; gi_at_call 24; refine (callsIn_wide.2 (HD.out _ (((H.out.alloc _).alloc _).alloc _))).mono ?_; rintro e w' ⟨rfl, rfl⟩; rw [Hg.out])
    | (refine ⟨trivial, ?_⟩; gi_at_call 33; refine (callsIn_wide.2 (HH.out _ (((H.out.alloc _).alloc _).alloc _))).mono ?_; rintro e w' ⟨rfl, rfl⟩; rw [Hd.out])
    | (refine ⟨trivial, ?_⟩; gi_at_call 39; refine (callsIn_wide.2 (backward_any _ _ _ _)).mono ?_; rintro e w' ⟨rfl, rfl⟩))
  have hbi : Boxed ((((w.alloc (.cells #[.int .i64 i] 3)).alloc (.cells Zs 47)).alloc (.cells #[.nilIface] 27)).alloc (.cells #[.slice A d.wait.length cap] 65)) w.heap.size 3 (.int .i64 i) := (((Boxed.new w _ _).alloc _).alloc _).alloc _
  have hbs : Blk ((((w.alloc (.cells #[.int .i64 i] 3)).alloc (.cells Zs 47)).alloc (.cells #[.nilIface] 27)).alloc (.cells #[.slice A d.wait.length cap] 65)) (w.heap.size + 1) 47 Zs := by
    have := ((Blk.new (w.alloc (.cells #[.int .i64 i] 3)) 47 Zs).alloc (.cells #[.nilIface] 27)).alloc (.cells #[.slice A d.wait.length cap] 65)
    simpa using this
  have hbe : Boxed ((((w.alloc (.cells #[.int .i64 i] 3)).alloc (.cells Zs 47)).alloc (.cells #[.nilIface] 27)).alloc (.cells #[.slice A d.wait.length cap] 65)) (w.heap.size + 1 + 1) 27 .nilIface := by
    have := (Boxed.new ((w.alloc (.cells #[.int .i64 i] 3)).alloc (.cells Zs 47)) 27 .nilIface).alloc (.cells #[.slice A d.wait.length cap] 65)
    simpa using this
  have hbn : Boxed ((((w.alloc (.cells #[.int .i64 i] 3)).alloc (.cells Zs 47)).alloc (.cells #[.nilIface] 27)).alloc (.cells #[.slice A d.wait.length cap] 65)) (w.heap.size + 1 + 1 + 1) 65 (.slice A d.wait.length cap) := by
    have := Boxed.new (((w.alloc (.cells #[.int .i64 i] 3)).alloc (.cells Zs 47)).alloc (.cells #[.nilIface] 27)) 65 (.slice A d.wait.length cap)
    simpa using this
  have hB0 : Below w.heap.size w ((((w.alloc (.cells #[.int .i64 i] 3)).alloc (.cells Zs 47)).alloc (.cells #[.nilIface] 27)).alloc (.cells #[.slice A d.wait.length cap] 65)) := ((((Below.refl _ w).alloc (Nat.le_refl _) _).alloc (by simp) _).alloc (by simp; omega) _).alloc (by simp; omega) _
  have hsz : ((((w.alloc (.cells #[.int .i64 i] 3)).alloc (.cells Zs 47)).alloc (.cells #[.nilIface] 27)).alloc (.cells #[.slice A d.wait.length cap] 65)).heap.size = w.heap.size + 4 := by simp
  obtain ⟨W0, hW0⟩ : ∃ W0, ((((w.alloc (.cells #[.int .i64 i] 3)).alloc (.cells Zs 47)).alloc (.cells #[.nilIface] 27)).alloc (.cells #[.slice A d.wait.length cap] 65)) = W0 := ⟨_, rfl⟩
  rw [hW0] at hbi hbs hbe hbn hB0 hsz ⊢
  clear hW0
  have hZs : Zs.size = 128 := by
    have h1 := hZ w
    have h2 := sec_zero w
    rw [h1] at h2
    injection h2 with h2
    injection h2 with h2
    rw [h2]
    simp [Sec.cs_len]
  have hrl : ∀ k, k ∈ rowOf (.slice A d.wait.length cap) → k < w.heap.size := fun k hk => row_under Hrow.out k hk
  refine wpIn_rangeFunc_ownH hro h1 (gf := 45) (lb := #[.pointer (some ⟨w.heap.size + 1 + 1 + 1, 0, none⟩)]) rfl trivial (enters_of Try.func45 (by kernel_rfl) rfl)
    (back_stops Fence.wide 4 (fun _ => trivial) hro (by omega) (w.heap.size + 1 + 1 + 1) W0.heap.size base A cap d.wait hw W0 (by omega) (Nat.le_refl _) hbn.cell (row_of Hrow.out (fun k hk => hB0.block k (hrl k hk))) (fun k hk => by have := hrl k hk; omega)) belowK_t (belowK_b (Nat.le_refl _)) (Below.refl _ _) (fun _ => rfl)
    (fun pre W => (((∀ p ∈ pre, p.2.1 ≠ i) ∧ Boxed W w.heap.size 3 (.int .i64 i)) ∧ (Blk W (w.heap.size + 1) 47 Zs ∧ (Boxed W (w.heap.size + 1 + 1) 27 .nilIface ∧ Boxed W (w.heap.size + 1 + 1 + 1) 65 (.slice A d.wait.length cap)))) ∧ Below w.heap.size w W)
    (fun c pre W => ((c = .ret ∧ ∃ ini last, pre = ini ++ [last] ∧ (∀ p ∈ ini, p.2.1 ≠ i) ∧ last.2.1 = i ∧ Blk W (w.heap.size + 1) 47 last.2.2.cs.toArray) ∧ Boxed W (w.heap.size + 1 + 1) 27 .nilIface) ∧ Below w.heap.size w W)
    ?own1 ?own2 ⟨⟨⟨by simp, hbi⟩, hbs, hbe, hbn⟩, hB0⟩
    (fun x a' W => ∃ Bx, W0.heap.size ≤ Bx ∧ Blk W Bx 76 (wrc x.2).toArray ∧ a' = { tmps := #[.pointer (some ⟨g, 0, none⟩), .int .i64 i, undef, .pointer (some ⟨w.heap.size, 0, none⟩), .pointer (some ⟨w.heap.size + 1, 0, none⟩), .pointer (some ⟨w.heap.size + 1 + 1, 0, none⟩), undef, .pointer (some ⟨Bx, 0, none⟩), .pointer (some ⟨g, 0, none⟩), .bool false, undef, undef, .pointer (some ⟨g, 0, none⟩), .int .i64 i, .bool true, .bool false, undef, undef, .pointer (some ⟨g, 0, none⟩), .pointer (some ⟨g, 0, none⟩), .pointer (some ⟨g, 6, none⟩), .slice A d.wait.length cap, .func (.func 45) #[] #[.pointer (some ⟨w.heap.size + 1 + 1 + 1, 0, none⟩)], .int .i64 (x.1 : Int), .agg (wrc x.2).toArray, undef, undef, undef, undef, undef, undef, undef, undef, undef, undef, undef, undef], defers := [] })
    ?own3 ?assign ?body ?done ?stop
  case own1 =>
    refine OwnFrom.and (OwnFrom.and (OwnFrom.and (ownFrom_pure _ _) (Own.from (boxed_own _ _ _) _)) (OwnFrom.and (fun s W W' row hs hg hr => Blk.of hs (hg.block _ (Blk.lt hs) (fun e => ?_))) (OwnFrom.and (Own.from (boxed_own _ _ _) _) (Own.from (boxed_own _ _ _) _)))) (ownFrom_below (Nat.le_refl _) (by omega))
    have := (hr _ e.symm).1
    omega
  case own2 =>
    intro c
    refine OwnFrom.and (OwnFrom.and (fun s W W' row hs hg hr => ?_) (Own.from (boxed_own _ _ _) _)) (ownFrom_below (Nat.le_refl _) (by omega))
    obtain ⟨hc, ini, last, e1, e2, e3, e4⟩ := hs
    refine ⟨hc, ini, last, e1, e2, e3, e4.of (hg.block _ e4.lt (fun e => ?_))⟩
    have := (hr _ e.symm).1
    omega
  case own3 =>
    intro x a' s W W' row hs hg hr
    obtain ⟨Bx, g1, g2, g3⟩ := hs
    refine ⟨Bx, g1, g2.of (hg.block _ g2.lt (fun e => ?_)), g3⟩
    obtain ⟨_, o, ho, hc⟩ := hr _ e.symm
    unfold Blk at g2
    rw [g2] at ho
    cases ho
    cases hc
  case assign =>
    rintro l pre x W K ⟨⟨⟨hp, b1⟩, b2, b3, b4⟩, hB⟩ hK
    obtain ⟨Z, hZ1, hZ2⟩ := write_zero_at
    have hi : (Try.prog.info? 76).map (·.size) = some (wrc x.2).length := by rw [wr_len]; exact write_size
    have HK := Lib.hid hK
    have Hp := Lib.hid hp
    clear hK hp
    unfold encB
    gi_wp2_with (refine wpListIn_store_new rfl 76 (.tmp 7) (.tmp 24) rfl (wrc x.2) Z rfl rfl hi (by rw [hZ2, wr_len]) (wr_one x.2) ?_)
    have hws : W0.heap.size ≤ W.heap.size := by have := b4.lt; omega
    exact HK.out _ _ ((KeepsOthers.alloc _ _).from _) ((Below.refl _ W).alloc hws _) ⟨⟨⟨Hp.out, b1.alloc _⟩, b2.alloc _, b3.alloc _, b4.alloc _⟩, hB.alloc hB.size _⟩ ⟨W.heap.size, hws, Blk.new W _ _, rfl⟩
  case body =>
    rintro l pre x a' W hl - ⟨⟨⟨hp, b1⟩, b2, b3, b4⟩, hB⟩ ⟨Bx, hBx, bX, rfl⟩ hlt
    have c1 := b1.cell
    have c3 := b3.cell
    have f3 := b3.frozen
    have cat : W.cell? ⟨Bx, 128, none⟩ = some (.int .i64 x.2.1) := by
      rw [bX.cell]
      simp [wrc, x.2.2.cs_len]
    have rat : W.rangeAt Bx 0 x.2.2.cs := fun j u hj => by
      rw [Nat.zero_add, bX.cell]
      have : j < x.2.2.cs.length := (List.getElem?_eq_some_iff.1 hj).1
      simp only [wrc, List.getElem?_toArray]
      rw [List.getElem?_append_left this]
      exact hj
    have hu := Try.underlying47
    have hi : (Try.prog.info? 47).map (·.size) = some x.2.2.cs.length := by rw [x.2.2.cs_len]; exact sec_size
    have hia : (Try.prog.info? 47).map (·.size) = some x.2.2.cs.toArray.size := by rw [List.size_toArray]; exact hi
    have hth : W.there (w.heap.size + 1) 0 x.2.2.cs.toArray.size := b2.there (by simp [x.2.2.cs_len, hZs])
    have hsg := (setCells_grown (w.heap.size + 1) x.2.2.cs 0 W)
    have ce : (W.setCells (w.heap.size + 1) 0 x.2.2.cs).cell? ⟨w.heap.size + 1 + 1, 0, none⟩ = some .nilIface := (hsg.1.cell_far _ b3.lt (by simp)).trans c3
    have fe : (W.setCells (w.heap.size + 1) 0 x.2.2.cs).frozen? ⟨w.heap.size + 1 + 1, 0, none⟩ = false := (World.frozen?_setCells _ _ _ _ _).trans f3
    have Hp := Lib.hid hp
    have Hsg := Lib.hid hsg
    have Hia := Lib.hid hi
    clear hp hsg
    by_cases hm : x.2.1 = i
    · have hmb : (x.2.1 == i) = true := by simpa using hm
      have Hm := Lib.hid hm
      clear hm
      gi_wp2_with (first
        | (refine wpListIn_load_mid rfl 47 (.tmp 29) rfl Bx 0 rfl x.2.2.cs _ rat hu rfl hi ?_)
        | (refine wpListIn_store_mid rfl 47 (.tmp 4) (.tmp 30) rfl (w.heap.size + 1) 0 x.2.2.cs.toArray rfl rfl hth hia (all_oneCell_toArray x.2.2.one) ?_))
      have hk1 : KeepsFrom W0.heap.size W (W.setCells (w.heap.size + 1) 0 x.2.2.cs) := KeepsFrom.of_grownBy Hsg.out.1 (fun j e => by injection e with e; omega)
      refine ⟨hk1.trans ((KeepsOthers.setCell _ _ _).from _), ⟨⟨rfl, pre, x, rfl, Hp.out, Hm.out, ?_⟩, ?_⟩, ?_⟩
      · exact (b2.over x.2.2.cs (by rw [x.2.2.cs_len, hZs])).far (by simp) _
      · exact (b3.kept Hsg.out.1 (by simp)).set _
      · exact (hB.grown Hsg.out.1 hB.size (fun k e => by injection e with e; omega)).setCell (p := ⟨w.heap.size + 1 + 1, 0, none⟩) (by show _ ≤ w.heap.size + 1 + 1; omega) _
    · have hmb : (x.2.1 == i) = false := by simpa using hm
      have Hm := Lib.hid hm
      clear hm
      gi_wp2
      refine ⟨KeepsFrom.refl _ _, Below.refl _ _, ⟨⟨fun p hp' => ?_, b1⟩, b2, b3, b4⟩, hB⟩
      rcases List.mem_append.1 hp' with h | h
      · exact Hp.out p h
      · obtain rfl := List.mem_singleton.1 h
        exact Hm.out
  case done =>
    rintro D ys W hD rfl ⟨⟨⟨hp, b1⟩, b2, b3, b4⟩, hB⟩ hK
    have hL := H.out.below hB
    obtain ⟨-, -, -, -, -, k5, -, -⟩ := hL.cells
    obtain ⟨f0, hm0, hf0⟩ := hL.map
    have lk : ∀ W', MapAt W' gm f0 → (Instr.lookup 62 (.map (some gm)) (.int .i64 i) false).run Try.prog W' = .ok (.agg (d.sure i).cs.toArray) W' := fun W' h => by
      rw [run_lookup_map Try.underlying62 Try.underlying3 sec_zero h, hf0]; rfl
    have c1 := b1.cell
    have c3 := b3.cell
    have f3 := b3.frozen
    have hgs2 := hL.blk.lt
    have hgm2 := hm0.lt
    have hmw : gm < w.heap.size := by
      have := H.out.under
      exact this gm (by simp)
    have hu := Try.underlying47
    have hi : (Try.prog.info? 47).map (·.size) = some (d.sure i).cs.length := by rw [(d.sure i).cs_len]; exact sec_size
    have hcl := (d.sure i).cs_len
    have hone := (d.sure i).one
    have hth : W.there (w.heap.size + 1) 0 128 := b2.there (by omega)
    have hsg := (setCells_grown (w.heap.size + 1) (d.sure i).cs 0 W.drew)
    have sB : (W.drew.setCells (w.heap.size + 1) 0 (d.sure i).cs).cell? ⟨g, 5, none⟩ = some (.map (some gm)) ∧ (W.drew.setCells (w.heap.size + 1) 0 (d.sure i).cs).cell? ⟨w.heap.size, 0, none⟩ = some (.int .i64 i) ∧ (Instr.lookup 62 (.map (some gm)) (.int .i64 i) false).run Try.prog (W.drew.setCells (w.heap.size + 1) 0 (d.sure i).cs) = .ok (.agg (d.sure i).cs.toArray) (W.drew.setCells (w.heap.size + 1) 0 (d.sure i).cs) ∧ (W.drew.setCells (w.heap.size + 1) 0 (d.sure i).cs).there (w.heap.size + 1) 0 128 ∧ (W.drew.setCells (w.heap.size + 1) 0 (d.sure i).cs).cell? ⟨w.heap.size + 1 + 1, 0, none⟩ = some .nilIface ∧ (W.drew.setCells (w.heap.size + 1) 0 (d.sure i).cs).frozen? ⟨w.heap.size + 1 + 1, 0, none⟩ = false :=
      ⟨(hsg.1.cell_far ⟨g, 5, none⟩ hgs2 (by simp; omega)).trans k5, (hsg.1.cell_far ⟨w.heap.size, 0, none⟩ b1.lt (by simp)).trans c1, lk _ (hm0.of (hsg.1.block gm hgm2 (by simp; omega))), World.there_setCells (w := W.drew) hth _ _ _, (hsg.1.cell_far ⟨w.heap.size + 1 + 1, 0, none⟩ b3.lt (by simp)).trans c3, (World.frozen?_setCells _ _ _ _ _).trans f3⟩
    have hb4 : Blk (W.drew.setCells (w.heap.size + 1) 0 (d.sure i).cs) (w.heap.size + 1) 47 (d.sure i).cs.toArray := (b2.drew).over _ (by rw [hcl, hZs])
    have hm4 : MapAt (W.drew.setCells (w.heap.size + 1) 0 (d.sure i).cs) gm f0 := hm0.of (hsg.1.block gm hgm2 (by simp; omega))
    have hB4 : Below w.heap.size w (W.drew.setCells (w.heap.size + 1) 0 (d.sure i).cs) := (hB.drew).grown hsg.1 hB.size (fun k e => by injection e with e; omega)
    have hK4 : (W.drew.setCells (w.heap.size + 1) 0 (d.sure i).cs).heap[D]? = some (.deferred (some [])) := (hsg.1.block D ((Array.getElem?_eq_some_iff.1 hK).1) (by simp; omega)).trans hK
    have hs4 := hsg.2
    have hbe4 := (show Boxed W.drew _ _ _ from b3).kept hsg.1 (by simp)
    obtain ⟨W4, hW4⟩ : ∃ W4, W.drew.setCells (w.heap.size + 1) 0 (d.sure i).cs = W4 := ⟨_, rfl⟩
    rw [hW4] at sB hb4 hm4 hB4 hK4 hs4 hbe4
    obtain ⟨s1, s2, s3, s4, s5, s6⟩ := sB
    have sC : (W4.setCell ⟨w.heap.size + 1 + 1, 0, none⟩ .nilIface).cell? ⟨g, 5, none⟩ = some (.map (some gm)) ∧ (W4.setCell ⟨w.heap.size + 1 + 1, 0, none⟩ .nilIface).cell? ⟨w.heap.size, 0, none⟩ = some (.int .i64 i) ∧ (Instr.lookup 62 (.map (some gm)) (.int .i64 i) false).run Try.prog (W4.setCell ⟨w.heap.size + 1 + 1, 0, none⟩ .nilIface) = .ok (.agg (d.sure i).cs.toArray) (W4.setCell ⟨w.heap.size + 1 + 1, 0, none⟩ .nilIface) ∧ (W4.setCell ⟨w.heap.size + 1 + 1, 0, none⟩ .nilIface).there (w.heap.size + 1) 0 128 ∧ (W4.setCell ⟨w.heap.size + 1 + 1, 0, none⟩ .nilIface).cell? ⟨w.heap.size + 1 + 1, 0, none⟩ = some .nilIface ∧ (W4.setCell ⟨w.heap.size + 1 + 1, 0, none⟩ .nilIface).frozen? ⟨w.heap.size + 1 + 1, 0, none⟩ = false :=
      ⟨(World.cell?_setCell_other _ _ _ _ (fun e => by injection e with e; omega)).trans s1, (World.cell?_setCell_other _ _ _ _ (by simp)).trans s2, lk _ (hm4.of (Below.heap_setCell _ _ _ _ (by show gm ≠ w.heap.size + 1 + 1; omega))), (hb4.far (by simp) _).there (by simp [hcl]), World.cell?_setCell_same' _ _ _ (by rw [s5]; rfl), by rw [World.frozen?_setCell]; exact s6⟩
    have hb5 : Blk (W4.setCell ⟨w.heap.size + 1 + 1, 0, none⟩ .nilIface) (w.heap.size + 1) 47 (d.sure i).cs.toArray := hb4.far (by simp) _
    have c5 : (W4.setCell ⟨w.heap.size + 1 + 1, 0, none⟩ .nilIface).cell? ⟨w.heap.size + 1 + 1, 0, none⟩ = some .nilIface := sC.2.2.2.2.1
    have hB5 : Below w.heap.size w (W4.setCell ⟨w.heap.size + 1 + 1, 0, none⟩ .nilIface) := hB4.setCell (p := ⟨w.heap.size + 1 + 1, 0, none⟩) (by show _ ≤ w.heap.size + 1 + 1; omega) _
    have hK5 : (W4.setCell ⟨w.heap.size + 1 + 1, 0, none⟩ .nilIface).heap[D]? = some (.deferred (some [])) := (Below.heap_setCell _ _ _ _ (by show D ≠ w.heap.size + 1 + 1; omega)).trans hK4
    have hread : d.read i = d.sure i := by
      unfold DM.read
      rw [Hg.out, Hd.out, last_none d.wait i hp]
      rfl
    have herr : d.readErr i = 0 := by unfold DM.readErr; rw [Hg.out, Hd.out]; rfl
    have Hbx := Lib.hid (show Boxed (W4.setCell ⟨w.heap.size + 1 + 1, 0, none⟩ .nilIface) (w.heap.size + 1 + 1) 27 .nilIface from ((show Boxed W4 (w.heap.size + 1 + 1) 27 .nilIface from hbe4).set _))
    have SA := Lib.hid (⟨k5, c1, lk _ hm0, hth, c3, f3⟩ : W.drew.cell? ⟨g, 5, none⟩ = some (.map (some gm)) ∧ W.drew.cell? ⟨w.heap.size, 0, none⟩ = some (.int .i64 i) ∧ (Instr.lookup 62 (.map (some gm)) (.int .i64 i) false).run Try.prog W.drew = .ok (.agg (d.sure i).cs.toArray) W.drew ∧ W.drew.there (w.heap.size + 1) 0 128 ∧ W.drew.cell? ⟨w.heap.size + 1 + 1, 0, none⟩ = some .nilIface ∧ W.drew.frozen? ⟨w.heap.size + 1 + 1, 0, none⟩ = false)
    have SB := Lib.hid (⟨s1, s2, s3, s4, s5, s6⟩ : W4.cell? ⟨g, 5, none⟩ = some (.map (some gm)) ∧ W4.cell? ⟨w.heap.size, 0, none⟩ = some (.int .i64 i) ∧ (Instr.lookup 62 (.map (some gm)) (.int .i64 i) false).run Try.prog W4 = .ok (.agg (d.sure i).cs.toArray) W4 ∧ W4.there (w.heap.size + 1) 0 128 ∧ W4.cell? ⟨w.heap.size + 1 + 1, 0, none⟩ = some .nilIface ∧ W4.frozen? ⟨w.heap.size + 1 + 1, 0, none⟩ = false)
    rw [← hW4] at SB
    have SC := Lib.hid sC
    rw [← hW4] at SC hb5 c5 hB5 hK5 Hbx
    have HW4 := Lib.hid hW4
    have Hread := Lib.hid hread
    have Herr := Lib.hid herr
    clear lk hf0 hL hp hsg hK sC hread herr hW4 s1 s2 s3 s4 s5 s6 hm4 hb4 hB4 hK4 hs4 hbe4 c1 c3 f3 k5 hth
    gi_wp2
    refine wpIn_wide.2 ?_
    go_region_held3 (fun w' => w'.cell? ⟨g, 5, none⟩ = some (.map (some gm)) ∧ w'.cell? ⟨w.heap.size, 0, none⟩ = some (.int .i64 i) ∧ (Instr.lookup 62 (.map (some gm)) (.int .i64 i) false).run Try.prog w' = .ok (.agg (d.sure i).cs.toArray) w' ∧ w'.there (w.heap.size + 1) 0 128 ∧ w'.cell? ⟨w.heap.size + 1 + 1, 0, none⟩ = some .nilIface ∧ w'.frozen? ⟨w.heap.size + 1 + 1, 0, none⟩ = false)
      (first | exact SA.out | exact SB.out | exact SC.out)
      (fail)
    gi_wp2
    refine ⟨by simp, .inl ⟨_, _, rfl, run_takeDeferred hK5, ?_⟩⟩
    have hkp := grownBy_putObj' ((W.drew.setCells (w.heap.size + 1) 0 (d.sure i).cs).setCell ⟨w.heap.size + 1 + 1, 0, none⟩ .nilIface) D (.deferred none)
    refine ⟨_, read_results _ _ (w.heap.size + 1) (w.heap.size + 1 + 1) (d.sure i) .nilIface rfl rfl (hb5.of (hkp.block _ hb5.lt (by simp; omega))) ?_, ?_, ?_⟩
    · have hbx : Boxed ((W.drew.setCells (w.heap.size + 1) 0 (d.sure i).cs).setCell ⟨w.heap.size + 1 + 1, 0, none⟩ .nilIface) (w.heap.size + 1 + 1) 27 .nilIface := Hbx.out
      exact hbx.kept hkp (by simp; omega)
    · rw [Hread.out, Herr.out]; rfl
    · exact hB5.trans (belowK_b (w := w) (Nat.le_refl _) _ D _ _ (by omega) hK5 rfl rfl)
  case stop =>
    rintro D c pre W hD ⟨k, hk, rfl⟩ ⟨⟨⟨rfl, ini, last, e1, e2, e3, e4⟩, b3⟩, hB⟩ hK
    have hread : d.read i = last.2.2 := by
      unfold DM.read
      rw [Hg.out, Hd.out, last_some d.wait i k hk ini last e1 e2 e3]
      rfl
    have herr : d.readErr i = 0 := by unfold DM.readErr; rw [Hg.out, Hd.out]; rfl
    have Hread := Lib.hid hread
    have Herr := Lib.hid herr
    have HK := Lib.hid hK
    clear hread herr hK e1 e2 e3
    gi_wp2
    refine ⟨by simp, .inl ⟨_, _, rfl, run_takeDeferred HK.out, ?_⟩⟩
    have hkp := grownBy_putObj' W D (.deferred none)
    refine ⟨_, read_results _ _ (w.heap.size + 1) (w.heap.size + 1 + 1) last.2.2 .nilIface rfl rfl (e4.of (hkp.block _ e4.lt (by simp; omega))) (b3.kept hkp (by simp; omega)), ?_, ?_⟩
    · rw [Hread.out, Herr.out]; rfl
    · exact hB.trans (belowK_b (w := w) (Nat.le_refl _) _ D _ _ (by omega) HK.out rfl rfl)
set_option maxRecDepth 100000 in
set_option maxHeartbeats 2000000 in
theorem read_down (w : World) (base g gm : Nat) (v : Value) (d : DM) (i : Int) (h : Lies w base g gm v d) (hg : d.gone = true) :
    CallsIn Fence.wide 5 Try.prog 21 #[.pointer (some ⟨g, 0, none⟩), .int .i64 i] w fun e w' => e = .returned (.tuple #[(d.read i).v, errV (d.readErr i)]) ∧ Below w.heap.size w w' := by
  have hro : Fence.wide.round = none := rfl
  have h1 : 1 ≤ 5 := by omega
  have Hg := Lib.hid hg
  have H := Lib.hid h
  clear hg h
  refine callsIn_of_wp_marks Try.func21 rfl trivial ?_ hro
  simp only [Try.ntmps21, List.size_toArray, List.length_cons, List.length_nil, Nat.reduceAdd, Nat.reduceSub, Array.replicate_succ, Array.replicate_zero, List.push_toArray, List.append_toArray, List.nil_append, List.cons_append]
  obtain ⟨Zs, hZ, hZb⟩ : ∃ Zs : List Value, (∀ w, (zeroValue 47).run Try.prog w = .ok (.agg Zs.toArray) w) ∧ Zs = Sec.zero.cs := ⟨_, sec_zero, rfl⟩
  have hbl : Blk (((w.alloc (.cells #[.int .i64 i] 3)).alloc (.cells Zs.toArray 47)).alloc (.cells #[.nilIface] 27)) (w.heap.size + 1) 47 Zs.toArray := by
    have := (Blk.new (w.alloc (.cells #[.int .i64 i] 3)) 47 Zs.toArray).alloc (.cells #[.nilIface] 27)
    simpa using this
  have hbe : Boxed (((w.alloc (.cells #[.int .i64 i] 3)).alloc (.cells Zs.toArray 47)).alloc (.cells #[.nilIface] 27)) (w.heap.size + 1 + 1) 27 .nilIface := by
    have := Boxed.new ((w.alloc (.cells #[.int .i64 i] 3)).alloc (.cells Zs.toArray 47)) 27 .nilIface
    simpa using this
  have hlen : Zs.length = 128 := by rw [hZb, Sec.cs_len]
  have hia : (Try.prog.info? 47).map (·.size) = some Zs.toArray.size := by rw [List.size_toArray, hlen]; exact sec_size
  have hth := hbl.there (o := 0) (n := Zs.toArray.size) (by simp)
  have hone : ∀ u ∈ Zs, u.oneCell' = true := by rw [hZb]; exact Sec.zero.one
  have hsg := setCells_grown (w.heap.size + 1) Zs 0 (((w.alloc (.cells #[.int .i64 i] 3)).alloc (.cells Zs.toArray 47)).alloc (.cells #[.nilIface] 27))
  have hbe2 := hbe.kept hsg.1 (by simp)
  have hbl2 := hbl.over Zs (by simp)
  have hB2 : Below w.heap.size w ((((w.alloc (.cells #[.int .i64 i] 3)).alloc (.cells Zs.toArray 47)).alloc (.cells #[.nilIface] 27)).setCells (w.heap.size + 1) 0 Zs) :=
    ((((Below.refl _ w).alloc (Nat.le_refl _) _).alloc (by simp) _).alloc (by simp; omega) _).grown hsg.1 (by simp; omega) (fun k e => by injection e with e; omega)
  have c3 := hbe2.cell
  have f3 := hbe2.frozen
  have HZb := Lib.hid hZb
  have Hsg := Lib.hid hsg
  have Hbe2 := Lib.hid hbe2
  clear hZb hsg hbe2
  gi_wp2_with (first
    | (refine ⟨trivial, ?_⟩; gi_at_call 24; refine (callsIn_wide.2 (down_any _ base g gm v d (((H.out.alloc _).alloc _).alloc _))).mono ?_; rintro e w' ⟨rfl, rfl⟩; rw [Hg.out])
    | (refine wpListIn_store_mid rfl 47 (.tmp 4) (.tmp 10) rfl (w.heap.size + 1) 0 Zs.toArray rfl rfl hth hia (all_oneCell_toArray hone) ?_))
  refine ⟨_, read_results _ _ (w.heap.size + 1) (w.heap.size + 1 + 1) Sec.zero (errV 3) rfl rfl ?_ (Hbe2.out.set _), ?_, ?_⟩
  · rw [← HZb.out]; exact hbl2.far (by simp) _
  · have hread : d.read i = Sec.zero := by unfold DM.read; rw [Hg.out]; rfl
    have herr : d.readErr i = 3 := by unfold DM.readErr; rw [Hg.out]; rfl
    rw [hread, herr]
  · exact hB2.setCell (p := ⟨w.heap.size + 1 + 1, 0, none⟩) (by show _ ≤ w.heap.size + 1 + 1; omega) _
set_option maxRecDepth 100000 in
set_option maxHeartbeats 2000000 in
theorem read_range (w : World) (base g gm : Nat) (v : Value) (d : DM) (i : Int) (h : Lies w base g gm v d) (hg : d.gone = false) (hd : d.has i = false) :
    CallsIn Fence.wide 5 Try.prog 21 #[.pointer (some ⟨g, 0, none⟩), .int .i64 i] w fun e w' => e = .returned (.tuple #[(d.read i).v, errV (d.readErr i)]) ∧ Below w.heap.size w w' := by
  have hro : Fence.wide.round = none := rfl
  have h1 : 1 ≤ 5 := by omega
  have Hg := Lib.hid hg
  have Hd := Lib.hid hd
  have H := Lib.hid h
  clear hg hd h
  refine callsIn_of_wp_marks Try.func21 rfl trivial ?_ hro
  simp only [Try.ntmps21, List.size_toArray, List.length_cons, List.length_nil, Nat.reduceAdd, Nat.reduceSub, Array.replicate_succ, Array.replicate_zero, List.push_toArray, List.append_toArray, List.nil_append, List.cons_append]
  obtain ⟨Zs, hZ, hZb⟩ : ∃ Zs : List Value, (∀ w, (zeroValue 47).run Try.prog w = .ok (.agg Zs.toArray) w) ∧ Zs = Sec.zero.cs := ⟨_, sec_zero, rfl⟩
  have hbl : Blk (((w.alloc (.cells #[.int .i64 i] 3)).alloc (.cells Zs.toArray 47)).alloc (.cells #[.nilIface] 27)) (w.heap.size + 1) 47 Zs.toArray := by
    have := (Blk.new (w.alloc (.cells #[.int .i64 i] 3)) 47 Zs.toArray).alloc (.cells #[.nilIface] 27)
    simpa using this
  have hbe : Boxed (((w.alloc (.cells #[.int .i64 i] 3)).alloc (.cells Zs.toArray 47)).alloc (.cells #[.nilIface] 27)) (w.heap.size + 1 + 1) 27 .nilIface := by
    have := Boxed.new ((w.alloc (.cells #[.int .i64 i] 3)).alloc (.cells Zs.toArray 47)) 27 .nilIface
    simpa using this
  have hlen : Zs.length = 128 := by rw [hZb, Sec.cs_len]
  have hia : (Try.prog.info? 47).map (·.size) = some Zs.toArray.size := by rw [List.size_toArray, hlen]; exact sec_size
  have hth := hbl.there (o := 0) (n := Zs.toArray.size) (by simp)
  have hone : ∀ u ∈ Zs, u.oneCell' = true := by rw [hZb]; exact Sec.zero.one
  have hsg := setCells_grown (w.heap.size + 1) Zs 0 (((w.alloc (.cells #[.int .i64 i] 3)).alloc (.cells Zs.toArray 47)).alloc (.cells #[.nilIface] 27))
  have hbe2 := hbe.kept hsg.1 (by simp)
  have hbl2 := hbl.over Zs (by simp)
  have hB2 : Below w.heap.size w ((((w.alloc (.cells #[.int .i64 i] 3)).alloc (.cells Zs.toArray 47)).alloc (.cells #[.nilIface] 27)).setCells (w.heap.size + 1) 0 Zs) :=
    ((((Below.refl _ w).alloc (Nat.le_refl _) _).alloc (by simp) _).alloc (by simp; omega) _).grown hsg.1 (by simp; omega) (fun k e => by injection e with e; omega)
  have c3 := hbe2.cell
  have f3 := hbe2.frozen
  have HZb := Lib.hid hZb
  have Hsg := Lib.hid hsg
  have Hbe2 := Lib.hid hbe2
  clear hZb hsg hbe2
  gi_wp2_with (first
    | (refine ⟨trivial, ?_⟩; gi_at_call 24; refine (callsIn_wide.2 (down_any _ base g gm v d (((H.out.alloc _).alloc _).alloc _))).mono ?_; rintro e w' ⟨rfl, rfl⟩; rw [Hg.out])
    | (refine ⟨trivial, ?_⟩; gi_at_call 33; refine (callsIn_wide.2 (has_any _ base g gm v d i (((H.out.alloc _).alloc _).alloc _))).mono ?_; rintro e w' ⟨rfl, rfl⟩; rw [Hd.out])
    | (refine wpListIn_store_mid rfl 47 (.tmp 4) (.tmp 16) rfl (w.heap.size + 1) 0 Zs.toArray rfl rfl hth hia (all_oneCell_toArray hone) ?_))
  refine ⟨_, read_results _ _ (w.heap.size + 1) (w.heap.size + 1 + 1) Sec.zero (errV 1) rfl rfl ?_ (Hbe2.out.set _), ?_, ?_⟩
  · rw [← HZb.out]; exact hbl2.far (by simp) _
  · have hread : d.read i = Sec.zero := by unfold DM.read; rw [Hg.out, Hd.out]; rfl
    have herr : d.readErr i = 1 := by unfold DM.readErr; rw [Hg.out, Hd.out]; rfl
    rw [hread, herr]
  · exact hB2.setCell (p := ⟨w.heap.size + 1 + 1, 0, none⟩) (by show _ ≤ w.heap.size + 1 + 1; omega) _
theorem read_any (w : World) (base g gm : Nat) (v : Value) (d : DM) (i : Int) (h : Lies w base g gm v d) (hw : d.wait.length ≤ 1000000) :
    Calls Try.prog 21 #[.pointer (some ⟨g, 0, none⟩), .int .i64 i] w fun e w' => e = .returned (.tuple #[(d.read i).v, errV (d.readErr i)]) ∧ Below w.heap.size w w' := by
  cases hg : d.gone with
  | true => exact callsIn_wide.1 (read_down w base g gm v d i h hg)
  | false =>
    cases hd : d.has i with
    | false => exact callsIn_wide.1 (read_range w base g gm v d i h hg hd)
    | true => exact callsIn_wide.1 (read_in w base g gm v d i h hw hd hg)
end Go.Proofs.Ytgcghoalepkdfaa
