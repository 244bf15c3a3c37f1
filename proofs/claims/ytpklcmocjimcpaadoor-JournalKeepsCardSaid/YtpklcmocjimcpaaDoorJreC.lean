/-
  The laws' comparison of a journal's transactions with rows of bytes. Conditions: all lies where it is said to; small numbers.
-/
import Derived.Test.YtpklcmocjimcpaaDoorZj
import Derived.Test.YtpklcmocjimcpaaDoorJtiC
namespace Go.Proofs.YtpklcmocjimcpaaDoor
open Go.RowKit Go.Shelf Go.BigFrame
set_option maxRecDepth 100000
attribute [local go_sem] Oper.semAt_some
set_option linter.unusedSimpArgs false
set_option linter.unusedVariables false
theorem wpListIn_app_row {F : Fence} {nF : Nat} {w : World} {ops : Array Oper} {rest : List Oper} {o : Oper} {a : Act} {Q : Exit → Act → World → Prop} (hgd : o.guard = none) (s x : Operand)
    (ho : o.op = .call { callee := .builtin .append, args := #[s, x], argTypes := #[36, 36] })
    (base : Nat) (v : Value) (n : Nat) (xs : List Value) (hs : a.eval s = v) (hown : w.ownsRow base 34 1 v n xs)
    (B : Nat) (A : Option Addr) (c : Nat) (u : Value) (hx : a.eval x = .slice A 1 c) (hr : Reads w B 1 A 1 [u]) (hu : u.oneCell' = true) (hn : n ≤ 1000000) (hbase : base ≤ w.heap.size)
    (h : ∀ v' w', w'.ownsRow base 34 1 v' (n + 1) (xs ++ [u]) → w.grownBy w' v.ownBlock → wpListIn F nF Tryd.prog ops Q rest (a.put o.dst v') w') : wpListIn F nF Tryd.prog ops Q (o :: rest) a w :=
  wpListIn_plain hgd fun K' hK' => opIn_app_row s x ho base v n xs hs hown B A c u hx hr hu hn hbase fun v' w' h1 h2 => hK' _ _ (h v' w' h1 h2)
theorem KeepT.grown {Ks : List Nat} {w w' : World} {row : Option Nat} (hg : w.grownBy w' row) (hK : ∀ k ∈ Ks, k < w.heap.size) (hr : ∀ k, row = some k → k ∉ Ks ∧ ∃ cs t f, w.heap[k]? = some (Obj.cells cs t f) ∧ t ≠ 5) : KeepT Ks w w' :=
  ⟨hg.size, fun k hk => hg.block k (hK k hk) (fun e => (hr k e.symm).1 hk), fun k cs f h => (hg.block k (Array.getElem?_eq_some_iff.1 h).1 (fun e => by
    obtain ⟨-, cs', t, f', h2, h3⟩ := hr k e.symm
    rw [h] at h2
    injection h2 with h2
    injection h2 with _ h2
    exact h3 h2.symm)).trans h⟩
theorem own_obj {w : World} {base n size : Nat} {e : TypeId} {v : Value} {xs : List Value} (h : w.ownsRow base e size v n xs) {k : Nat} (hk : v.ownBlock = some k) : ∃ cs, w.heap[k]? = some (Obj.cells cs e (0, 0)) := by
  rcases h.2 with ⟨rfl, _⟩ | ⟨g, cap, cur, rfl, _, hh, _⟩
  · cases hk
  · injection hk with hk
    subst hk
    exact ⟨cur, hh⟩
theorem own_from {w W W' : World} {B base n : Nat} {e : TypeId} {v : Value} {xs : List Value} {row : Option Nat} (h : W.ownsRow base e 1 v n xs) (hg : W.grownBy W' row) (hr : ∀ r, row = some r → B ≤ r ∧ ∃ o : Obj, W.heap[r]? = some o ∧ o.isCells = false) : W'.ownsRow base e 1 v n xs := by
  refine World.ownsRow.kept h hg ?_
  rcases hv : v.ownBlock with _ | b
  · exact .inl rfl
  · right
    intro e1
    obtain ⟨-, o, ho, hc⟩ := hr b e1.symm
    exact row_no h ho hc hv
/-- what has been collected -/
structure GotAt (W w : World) (b : Nat) (v : Value) (xs : List TxV) : Prop where
  box : Boxed W b 36 v
  row : W.ownsRow w.heap.size 34 1 v xs.length (xs.map TxV.v)
  bel : Below w.heap.size w W
theorem GotAt.from {W W' w : World} {b B : Nat} {v : Value} {xs : List TxV} {row : Option Nat} (h : GotAt W w b v xs) (hg : W.grownBy W' row) (hB : w.heap.size ≤ B) (hb : b < B) (hr : ∀ r, row = some r → B ≤ r ∧ ∃ o : Obj, W.heap[r]? = some o ∧ o.isCells = false) : GotAt W' w b v xs :=
  ⟨h.box.kept hg (fun e => by have := (hr _ e.symm).1; omega), own_from (w := w) h.row hg hr, h.bel.grown hg h.bel.size (fun k e => by have := (hr k e).1; omega)⟩
theorem got_step {W W3 w : World} {b Bs : Nat} {Ks : List Nat} {v v3 : Value} {xs : List TxV} {x : TxV} (h : GotAt W w b v xs) (hg : (W.alloc (.cells #[x.v] 34)).grownBy W3 v.ownBlock) (h3 : W3.ownsRow w.heap.size 34 1 v3 (xs.length + 1) (xs.map TxV.v ++ [x.v]))
    (hb : w.heap.size ≤ b) (hK : ∀ k ∈ Ks, k < w.heap.size) (hBs : Bs < W.heap.size) (hBb : Bs ≠ b) (hBt : ∃ cs f, W.heap[Bs]? = some (Obj.cells cs 36 f)) (B : Nat) :
    KeepsFrom B W (W3.setCell ⟨b, 0, none⟩ v3) ∧ KeepT (Bs :: Ks) W (W3.setCell ⟨b, 0, none⟩ v3) ∧ ∃ v, GotAt (W3.setCell ⟨b, 0, none⟩ v3) w b v (xs ++ [x]) := by
  have ha := World.grownBy_alloc W (.cells #[x.v] 34) none
  have hrow2 := World.ownsRow.alloc h.row (.cells #[x.v] 34)
  have hbx2 := h.box.alloc (.cells #[x.v] 34)
  have hne : some b ≠ v.ownBlock := fun e => own_blk_ne hrow2 (show Blk _ b 36 #[v] from hbx2) (by decide) e.symm
  have hbx3 := hbx2.kept hg hne
  have hsz := hg.size
  rw [World.size_alloc] at hsz
  have hKW : ∀ k ∈ Bs :: Ks, k < W.heap.size := fun k hk => by
    rcases List.mem_cons.1 hk with rfl | hk
    · exact hBs
    · have := hK k hk; have := h.bel.size; omega
  have hlo : ∀ k, v.ownBlock = some k → w.heap.size ≤ k := fun k hk => (World.ownsRow.lt h.row k hk).1
  obtain ⟨csB, fB, hBt⟩ := hBt
  have hs := grownBy_setCell' W3 b v3
  refine ⟨?_, ?_, v3, hbx3.set v3, ?_, ?_⟩
  · refine KeepsFrom.trans (KeepsFrom.trans ((KeepsOthers.alloc _ _).from _) ((KeepsOthers.of_grownBy hg (fun j o e ho => ?_)).from _)) ((KeepsOthers.setCell _ _ _).from _)
    cases hc : o.isCells with
    | true => rfl
    | false => exact absurd e (row_no hrow2 ho hc)
  · refine (KeepT.grown ha hKW (fun k e => by cases e)).trans ((KeepT.grown hg (fun k hk => by rw [World.size_alloc]; have := hKW k hk; omega) (fun k e => ?_)).trans (KeepT.grown hs (fun k hk => by have := hKW k hk; omega) (fun k e => ?_)))
    · obtain ⟨cs, ho⟩ := own_obj hrow2 e
      refine ⟨fun hk => ?_, cs, _, _, ho, by decide⟩
      rcases List.mem_cons.1 hk with rfl | hk
      · have h1 : (W.alloc (.cells #[x.v] 34)).heap[k]? = some (Obj.cells csB 36 fB) := (Below.heap_alloc W _ k hBs).trans hBt
        rw [ho] at h1
        injection h1 with h1
        injection h1 with _ h1
        exact absurd h1 (by decide)
      · have := hlo k e; have := hK k hk; omega
    · cases e
      refine ⟨fun hk => ?_, _, _, _, hbx3, by decide⟩
      rcases List.mem_cons.1 hk with hk | hk
      · exact hBb hk.symm
      · have := hK b hk; omega
  · rw [List.length_append, List.length_singleton, List.map_append, List.map_singleton]
    have hne3 : v3.ownBlock ≠ some b := own_blk_ne h3 (show Blk _ b 36 #[v] from hbx3) (by decide)
    exact row_of h3 (fun k hk => Below.heap_setCell W3 ⟨b, 0, none⟩ v3 k (fun e => hne3 (by rw [mem_rowOf.1 hk, e])))
  · exact ((h.bel.alloc h.bel.size _).grown hg (by rw [World.size_alloc]; have := h.bel.size; omega) hlo).setCell (p := ⟨b, 0, none⟩) hb _
theorem rowsEq_results (W : World) (tmps : Array Value) (v : Value) (h : tmps.getD 4 undef = v) : (results Tryd.f19 tmps).run Tryd.prog W = .ok v W := by
  have h' : tmps[4]?.getD undef = v := by simpa using h
  unfold results
  rw [Tryd.results19]
  simp [h']
set_option maxRecDepth 100000 in
set_option maxHeartbeats 4000000 in
theorem rowsEq_in {w : World} {g gj n gen u : Nat} {vs vt : Value} {txs : List (List Nat)} {us : List Value} {base : Nat} (hJ : Blk w gj 67 (jcells n g gen vs vt u false)) (ht : TxRows w base vt txs us) (h256 : ∀ t ∈ txs, ∀ b ∈ t, b < 256) (hmany : txs.length ≤ 100000) (hlong : ∀ t ∈ txs, t.length ≤ 5000)
    (A' : Option Addr) (c' : Nat) (us' : List Value) (L' : List (List Nat)) (hR' : RowsAt w w.heap.size A' us' L') (hm' : L'.length ≤ 100000) :
    CallsIn Fence.wide 5 Tryd.prog 19 #[.pointer (some ⟨gj, 0, none⟩), .slice A' L'.length c'] w (RowsTo txs L' w) := by
  have hro : Fence.wide.round = none := rfl
  have h1 : 1 ≤ 5 := by omega
  obtain ⟨A, c, rfl⟩ := slice_of ht.1
  have HT := Lib.hid ht
  have HR' := Lib.hid hR'
  have H256 := Lib.hid h256
  have HLO := Lib.hid hlong
  have HTX := Lib.hid (fun w' (hb : Below w.heap.size w w') => txs_any (hJ.below hb hJ.lt))
  clear hJ ht hR' h256 hlong
  refine callsIn_of_wp_marks Tryd.func19 rfl trivial ?_ hro
  simp only [Tryd.ntmps19, List.size_toArray, List.length_cons, List.length_nil, Nat.reduceAdd, Nat.reduceSub, Array.replicate_succ, Array.replicate_zero, List.push_toArray, List.append_toArray, List.nil_append, List.cons_append]
  gi_wp2
  have hb2 : Below w.heap.size w ((w.alloc (.cells #[] 34)).alloc (.cells #[.slice (some ⟨w.heap.size, 0, none⟩) 0 0] 36)) := ((Below.refl _ w).alloc (Nat.le_refl _) _).alloc (by simp) _
  have hs2 : ((w.alloc (.cells #[] 34)).alloc (.cells #[.slice (some ⟨w.heap.size, 0, none⟩) 0 0] 36)).heap.size = w.heap.size + 2 := by simp
  have hx2 : Boxed ((w.alloc (.cells #[] 34)).alloc (.cells #[.slice (some ⟨w.heap.size, 0, none⟩) 0 0] 36)) (w.heap.size + 1) 36 (.slice (some ⟨w.heap.size, 0, none⟩) 0 0) := by
    have := Boxed.new (w.alloc (.cells #[] 34)) 36 (.slice (some ⟨w.heap.size, 0, none⟩) 0 0)
    simpa using this
  have hr2 : ((w.alloc (.cells #[] 34)).alloc (.cells #[.slice (some ⟨w.heap.size, 0, none⟩) 0 0] 36)).ownsRow w.heap.size 34 1 (.slice (some ⟨w.heap.size, 0, none⟩) 0 0) 0 [] :=
    World.ownsRow.alloc (w := w.alloc (.cells #[] 34)) ⟨rfl, .inr ⟨w.heap.size, 0, #[], rfl, Nat.le_refl _, Blk.new w _ _, Nat.le_refl _, by simp [maxLen], rfl, rfl⟩⟩ _
  refine ⟨trivial, ?_⟩
  refine (callsIn_wide.2 (HTX.out _ hb2)).mono ?_
  rintro e w3 ⟨rfl, b3, hx3, s3⟩
  rw [hs2] at hx3 s3 b3 ⊢
  have hg3 : GotAt w3 w (w.heap.size + 1) (.slice (some ⟨w.heap.size, 0, none⟩) 0 0) [] := ⟨(b3.block _ (by omega)).trans hx2, row_of hr2 (fun k hk => b3.block k (by have := row_under hr2 k hk; omega)), hb2.trans (b3.mono (by omega))⟩
  have HG3 := Lib.hid hg3
  have HX3 := Lib.hid hx3
  have HT3 := Lib.hid (HT.out.of (w' := w3) (fun k hk => hg3.bel.block k (HT.out.over k hk).2))
  have HKS := Lib.hid (show ∀ k ∈ (w.heap.size + 2) :: txBlks (.slice A txs.length c) us, k < w3.heap.size from fun k hk => by
    rcases List.mem_cons.1 hk with rfl | hk
    · omega
    · have := (HT.out.over k hk).2; omega)
  clear hb2 hs2 hx2 hr2 b3 hx3 hg3
  gi_wp2
  refine range_given hro h1 (gf := 43) (lb := #[.pointer (some ⟨w.heap.size + 2, 0, none⟩)]) rfl trivial (enters_of Tryd.func43 (by kernel_rfl) rfl) (encs := TxV.enc) (fun _ => rfl)
    (txs1_gives w.heap.size (w.heap.size + 2) base (.slice A txs.length c) txs us w3 (by omega) (by omega) HX3.out HT3.out H256.out hmany HLO.out)
    (fun xs W => ∃ v, GotAt W w (w.heap.size + 1) v xs ∧ Boxed W (w.heap.size + 2) 36 (.slice A txs.length c)) ?own1 ?own2 ?own3 (fun h h' => KeepT.trans h h') (fun W l o o' hl ho hc => KeepT.put (fun k hk => by have := HKS.out k hk; omega) ho hc) ⟨_, HG3.out, HX3.out⟩
    (fun x => { tmps := #[.pointer (some ⟨gj, 0, none⟩), .slice A' L'.length c', undef, undef, .bool false, .pointer (some ⟨w.heap.size + 1, 0, none⟩), undef, x.v, .slice (some ⟨w.heap.size, 0, none⟩) 0 0, .pointer (some ⟨gj, 0, none⟩), .func (.func 43) #[] #[.pointer (some ⟨w.heap.size + 2, 0, none⟩)], .int .i64 (x.i : Int), x.v, undef, undef, undef, undef, undef, undef, undef], defers := [] }) ?assign ?body ?done
  case own1 =>
    rintro s W W' row ⟨v, h, h'⟩ hg hr
    exact ⟨v, h.from hg (B := w3.heap.size) (by omega) (by omega) hr, h'.kept hg (fun e => by have := (hr _ e.symm).1; omega)⟩
  case own2 =>
    rintro s W W' row ⟨h1, h2⟩ hg hr
    refine ⟨h1, fun i t hi ht => ?_⟩
    obtain ⟨x, y1, y2, y3, y4⟩ := h2 i t hi ht
    exact ⟨x, y1, y2, y3, own_from (w := w) y4 hg hr⟩
  case own3 =>
    rintro x s W W' row ⟨t, y1, y2, y3⟩ hg hr
    exact ⟨t, y1, y2, own_from (w := w) y3 hg hr⟩
  case assign =>
    rintro l x W K hK
    have HK := Lib.hid hK
    clear hK
    unfold TxV.enc
    gi_wp2
    exact HK.out
  case body =>
    rintro l pre x W hlW ⟨rl, hrl⟩ ⟨v, hgot, hbs⟩ hGx hlt
    clear hGx hrl
    obtain ⟨i, A2, n2, c2⟩ := x
    have hcl := hgot.box.cell
    have hfz := hgot.box.frozen
    obtain ⟨Av, cv, rfl⟩ := row_form hgot.row
    have HG := Lib.hid hgot
    have HBS := Lib.hid hbs
    have hbl := hgot.bel.size
    clear hgot hbs
    dsimp only [TxV.v] at hcl ⊢
    refine wpIn_block ?_
    gi_wp2_with (refine wpListIn_app_row rfl (.tmp 13) (.tmp 15) rfl w.heap.size (.slice Av pre.length cv) pre.length (pre.map TxV.v) rfl (World.ownsRow.alloc HG.out.row _) _ (some ⟨W.heap.size, 0, none⟩) 1 (.slice A2 n2 c2) rfl (Reads.new W [Value.slice A2 n2 c2] 34 (0, 0)) rfl (by omega) (by rw [World.size_alloc]; omega) ?_
                 intro v3 W3 h3 g3
                 obtain ⟨A3, c3, rfl⟩ := row_form h3
                 have hb3 : Boxed W3 (w.heap.size + 1) 36 (.slice Av pre.length cv) := (HG.out.box.alloc (.cells #[.slice A2 n2 c2] 34)).kept g3 (fun e => own_blk_ne (World.ownsRow.alloc HG.out.row _) (show Blk _ _ 36 #[_] from HG.out.box.alloc (.cells #[.slice A2 n2 c2] 34)) (by decide) e.symm)
                 have hcl4 := hb3.cell
                 have hfz4 := hb3.frozen
                 have HF := Lib.hid (got_step (B := w3.heap.size) (x := ⟨i, A2, n2, c2⟩) (Ks := txBlks (.slice A txs.length c) us) (Bs := w.heap.size + 2) HG.out g3 h3 (by omega) (fun k hk => (HT.out.over k hk).2) (Array.getElem?_eq_some_iff.1 HBS.out).1 (by omega) ⟨_, _, HBS.out⟩)
                 clear h3 g3 hb3)
    have hres := HF.out
    refine ⟨hres.1, hres.2.1, ?_⟩
    obtain ⟨v4, hv4⟩ := hres.2.2
    exact ⟨v4, hv4, (hres.2.1.2.1 _ (by simp)).trans HBS.out⟩
  case done =>
    rintro D xs W hD hS ⟨v, hgot, hbs⟩ hK
    have hcl := hgot.box.cell
    obtain ⟨Av, cv, rfl⟩ := row_form hgot.row
    have hrows : RowsAt W W.heap.size Av (xs.map TxV.v) txs := by
      have h0 := Reads.of_own hgot.row
      rw [hS.1] at h0
      refine ⟨h0, fun i t hi => ?_⟩
      obtain ⟨x, y1, y2, y3, y4⟩ := hS.2 i t (List.getElem?_eq_some_iff.1 hi).1 hi
      obtain ⟨xi, xA, xn, xc⟩ := x
      simp only at y3
      subst y3
      exact ⟨xA, xc, by rw [List.getElem?_map, y1]; rfl, Own.bytes y4 (H256.out t (List.mem_of_getElem? hi))⟩
    have HROWS := Lib.hid hrows
    have HB := Lib.hid hgot.bel
    have HK := Lib.hid hK
    have hlen := hS.1
    rw [hlen] at hcl
    have hsz := hgot.bel.size
    clear hgot hbs hK hS hrows
    gi_wp2_with (refine ⟨trivial, ?_⟩
                 gi_at_call 42
                 refine (callsIn_wide.2 (rows_iff Av A' cv c' _ _ (xs.map TxV.v) us' txs L' W HROWS.out (HR'.out.below HB.out) (Nat.le_refl _) hsz hmany hm')).mono ?_
                 rintro e W2 ⟨r, rfl, hr, bel⟩
                 have HRR := Lib.hid (And.intro hr bel)
                 clear hr bel)
    have hk2 := (HRR.out.2.block D (Array.getElem?_eq_some_iff.1 HK.out).1).trans HK.out
    refine ⟨by simp, .inl ⟨_, _, rfl, run_takeDeferred hk2, ?_⟩⟩
    have hkp := grownBy_putObj' W2 D (.deferred none)
    exact ⟨_, rowsEq_results _ _ _ rfl, r, rfl, HRR.out.1, (HB.out.trans (HRR.out.2.mono hsz)).grown hkp (by have := HRR.out.2.size; omega) (fun k e => by cases e; omega)⟩
theorem rowsEqual_any {w : World} {g gj n gen u : Nat} {vs vt : Value} {txs : List (List Nat)} {us : List Value} {base : Nat} (hJ : Blk w gj 67 (jcells n g gen vs vt u false)) (ht : TxRows w base vt txs us) (h256 : ∀ t ∈ txs, ∀ b ∈ t, b < 256) (hmany : txs.length ≤ 100000) (hlong : ∀ t ∈ txs, t.length ≤ 5000)
    (A' : Option Addr) (c' : Nat) (us' : List Value) (L' : List (List Nat)) (hR' : RowsAt w w.heap.size A' us' L') (hm' : L'.length ≤ 100000) :
    Calls Tryd.prog 19 #[.pointer (some ⟨gj, 0, none⟩), .slice A' L'.length c'] w (RowsTo txs L' w) :=
  callsIn_wide.1 (rowsEq_in hJ ht h256 hmany hlong A' c' us' L' hR' hm')
end Go.Proofs.YtpklcmocjimcpaaDoor
