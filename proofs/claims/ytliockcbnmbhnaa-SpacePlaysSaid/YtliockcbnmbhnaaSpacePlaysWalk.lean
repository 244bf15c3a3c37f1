/-
  The walk of the law SpacePlays. Conditions: the script reads as it is said to.
-/
import Derived.Test.YtliockcbnmbhnaaUj
import Derived.Test.YtliockcbnmbhnaaSpaceOnceWalk
import Derived.Deep.CutRange
namespace Go.Proofs.Ytliockcbnmbhnaa
open Go.RowKit Go.BigFrame
set_option linter.unusedSimpArgs false
set_option linter.unusedVariables false
theorem app_grid2 {w0 w : World} {ops : Array Oper} {rest : List Oper} {o : Oper} {a : Act} {Q : Exit → Act → World → Prop} (s x : Operand)
    (hgd : o.guard = none) (ho : o.op = .call { callee := .builtin .append, args := #[s, x], argTypes := #[35, 35] })
    (v : Value) (ls : List (Value × List (Nat × Nat))) (hs : a.eval s = v) (hG : Grid w0 w v ls) (u : Value) (es : List (Nat × Nat)) (hu : OwnE w w0.heap.size u (natE es)) (b c : Nat) (hx : a.eval x = .slice (some ⟨b, 0, none⟩) 1 c) (hb : w.cell? ⟨b, 0, none⟩ = some u)
    (hsz : ls.length ≤ 1000000) (hbase : w0.heap.size ≤ w.heap.size)
    (h : ∀ v' w', Grid w0 w' v' (ls ++ [(u, es)]) → w.grownBy w' v.ownBlock → (∀ k, v.ownBlock = some k → ∃ cs, Blk w k 36 cs) → (v'.ownBlock = v.ownBlock ∨ v'.ownBlock = some w.heap.size) → wpList Try.prog ops Q rest (a.put o.dst v') w') :
    wpList Try.prog ops Q (o :: rest) a w := by
  obtain ⟨i0, hi0, hz0, hz1, hz2⟩ := info_parts row_info
  have hr : Reads w w.heap.size 1 (some ⟨b, 0, none⟩) 1 [u] := ⟨rfl, fun _ => ⟨_, rfl, World.block_lt_of_cell? w _ hb, fun j u' hj => by
    match j, hj with
    | 0, hj => simp at hj; subst hj; simpa [Addr.add] using hb⟩⟩
  have hone : u.oneCell' = true := by obtain ⟨A1, c1, rfl, -⟩ := hu.form; rfl
  refine wpList_append_any w hgd s x _ ho w0.heap.size 36 i0 _ 1 24 Try.underlying35 hi0 hz0 hz1 hz2 rfl (by omega) v ls.length (ls.map (·.1)) hs hG.own w.heap.size (some ⟨b, 0, none⟩) 1 c [u] hx hr (by simpa using hone) (by simp only [maxLen]; omega) (by omega) hbase ?_
  intro v' w' h1 h2 h3
  exact h v' w' (hG.app hu h1 h2) h2 (fun k hk => own_typed hG.own hk) h3
/-- in the midst of SpacePlays: the space, the document's row, what was taken -/
structure Ply (w W : World) (g r c n : Nat) (A D : Option Addr) (flS flD : List Bool) (tv : Value) (ls : List (Value × List (Nat × Nat))) : Prop where
  sp : Sps w W g r c A flS
  doc : DocF W g r D flD
  grid : Grid w W tv ls
  lenS : flS.length = n
  lenD : flD.length = n
  fit : ∀ p ∈ ls, p.2.length ≤ 65536 ∧ ∀ e ∈ p.2, e.1 ≤ 65536 ∧ e.2 ≤ 65536
  out : flD ≠ [] → ∀ ad, D = some ad → tv.ownBlock ≠ some ad.block
/-- an act under way: the act's own variable, the copy of its list -/
structure Act1 (w W : World) (gb cc : Nat) (Ac : Option Addr) (o : SOp) : Prop where
  blk : Blk W gb 38 #[.int .i64 o.k, .int .i64 o.n, .slice o.E o.es.length o.c]
  own : OwnE W w.heap.size (.slice Ac o.es.length cc) o.es
theorem Act1.keep {w W W' : World} {gb cc : Nat} {Ac : Option Addr} {o : SOp} (h : Act1 w W gb cc Ac o) (hk : KeepT W W') : Act1 w W' gb cc Ac o :=
  ⟨h.blk.of (hk _ _ _ h.blk (by decide) (by decide)), own_keep h.own hk (by decide) (by decide)⟩
theorem ne_of_len {a b : List Bool} {n : Nat} (h : a.length = n) (h' : b.length = n) (hn : a ≠ []) : b ≠ [] := fun e => hn (List.eq_nil_of_length_eq_zero (by rw [h, ← h', e]; rfl))
theorem Ply.call {w W W' : World} {g r r' c n : Nat} {A D : Option Addr} {fl fl' : List Bool} {tv : Value} {ls : List (Value × List (Nat × Nat))} (h : Ply w W g r c n A D fl fl tv ls) (hT : KeepT W W') (hR : KeepR g r fl W W') (hs : W.heap.size ≤ W'.heap.size) (hr : fl ≠ [] → r' = r) (hS : Sps w W' g r' c A fl') (hl : fl'.length = n) : Ply w W' g r' c n A D fl' fl tv ls :=
  ⟨hS, h.doc.keepR hR hs hr, h.grid.keep hT, hl, h.lenD, h.fit, h.out⟩
theorem Ply.more {w W W' : World} {g r c n : Nat} {A D : Option Addr} {flS flD : List Bool} {tv : Value} {ls : List (Value × List (Nat × Nat))} (h : Ply w W g r c n A D flS flD tv ls) (hb : Below W.heap.size W W') : Ply w W' g r c n A D flS flD tv ls :=
  ⟨h.sp.below hb, h.doc.below hb, h.grid.keep (KeepT.below hb), h.lenS, h.lenD, h.fit, h.out⟩
theorem Ply.docs {w W W' : World} {g r c n : Nat} {A D D' : Option Addr} {flS flD : List Bool} {tv : Value} {ls : List (Value × List (Nat × Nat))} (h : Ply w W g r c n A D flS flD tv ls) (hb : Below W.heap.size W W') (hd : DRow W W' D D' flS) : Ply w W' g r c n A D' flS flS tv ls := by
  refine ⟨h.sp.below hb, h.doc.next hd (by rw [h.lenS, h.lenD]) h.sp.at_.blk.lt (fun hf => h.sp.at_.rlt (ne_of_len h.lenD h.lenS hf)), h.grid.keep (KeepT.below hb), h.lenS, h.lenS, h.fit, fun hf ad hA he => ?_⟩
  rcases hd.new with e | e
  · subst e; exact h.out (ne_of_len h.lenS h.lenD hf) ad hA he
  · have h1 := e ad hA
    have h2 := (World.ownsRow.lt h.grid.own _ he).2
    omega
theorem Ply.app {w W W7 : World} {g r c n : Nat} {A D : Option Addr} {fl : List Bool} {tv tv2 v : Value} {ls : List (Value × List (Nat × Nat))} {es : List (Nat × Nat)} {ob : Obj} (h : Ply w W g r c n A D fl fl tv ls)
    (hg : (W.alloc ob).grownBy W7 tv.ownBlock) (hr : ∀ k, tv.ownBlock = some k → ∃ cs, Blk (W.alloc ob) k 36 cs) (hG : Grid w W7 tv2 (ls ++ [(v, es)])) (hn : tv2.ownBlock = tv.ownBlock ∨ tv2.ownBlock = some (W.alloc ob).heap.size) (hf : es.length ≤ 65536 ∧ ∀ e ∈ es, e.1 ≤ 65536 ∧ e.2 ≤ 65536) : Ply w W7 g r c n A D fl fl tv2 (ls ++ [(v, es)]) := by
  have ha : Below W.heap.size W (W.alloc ob) := (Below.refl _ _).alloc (Nat.le_refl _) _
  have h6 := h.more ha
  have hdl : ∀ ad, D = some ad → fl ≠ [] → ad.block < W.heap.size := fun ad hA hne => by
    obtain ⟨ad', e, hb, _⟩ := h.doc.reads.2 (by cases fl with | nil => exact absurd rfl hne | cons => simp)
    rw [hA] at e; injection e with e; subst e; exact hb
  refine ⟨h6.sp.keepB (KeepB.grown hg hr (by decide) (by decide)) (h6.sp.bel.grown hg h6.sp.bel.size (fun j hj => (World.ownsRow.lt h.grid.own j hj).1)), ⟨⟨h6.doc.reads.1, fun hn => ?_⟩, h6.doc.far⟩, hG, h.lenS, h.lenD, fun p hp => ?_, fun hne ad hA he => ?_⟩
  · obtain ⟨ad, e, hb, hc⟩ := h6.doc.reads.2 hn
    refine ⟨ad, e, Nat.lt_of_lt_of_le hb hg.size, fun j u hu => ?_⟩
    have hne : fl ≠ [] := fun e => by subst e; simp at hn
    have hnb : some ad.block ≠ tv.ownBlock := fun he => h.out hne ad e he.symm
    have : W7.cell? (ad.add j) = (W.alloc ob).cell? (ad.add j) := World.cell?_of_block (by rw [block_of_add]; exact hg.block ad.block hb hnb)
    rw [this]
    exact hc j u hu
  · rcases List.mem_append.1 hp with hp | hp
    · exact h.fit p hp
    · simp at hp; subst hp; exact hf
  · rcases hn with hn | hn
    · exact h.out hne ad hA (hn ▸ he)
    · rw [he] at hn
      injection hn with hn
      have := hdl ad hA hne
      simp at hn
      omega
theorem Act1.grown {w W W7 : World} {gb cc : Nat} {Ac : Option Addr} {o : SOp} {ob : Obj} {row : Option Nat} (h : Act1 w W gb cc Ac o) (hg : (W.alloc ob).grownBy W7 row) (hr : ∀ k, row = some k → ∃ cs, Blk (W.alloc ob) k 36 cs) : Act1 w W7 gb cc Ac o := by
  have h6 := h.keep (KeepT.below ((Below.refl W.heap.size W).alloc (Nat.le_refl _) ob))
  refine ⟨h6.blk.grown hg (fun e => ?_), own_grown h6.own hg hr (by decide)⟩
  obtain ⟨cs, hb⟩ := hr gb e.symm
  exact h6.blk.ne_ hb (by decide) rfl
theorem keepT_only {a b c : World} {bl : Nat} (h : KeepT a b) (ho : Only [bl] b c) (hbl : a.heap.size ≤ bl) (hs : a.heap.size ≤ b.heap.size) : KeepT a c := fun k cs t hb h1 h2 =>
  (ho.block k (by have := hb.lt; omega) (fun hm => by simp at hm; have := hb.lt; omega)).trans (h k cs t hb h1 h2)
theorem turn_agree {fl : List Bool} {es : List (Int × Int)} {b : Bool} {ns ms : List (Nat × Nat)} (h : TurnOk fl es b ns) (k : TurnOk fl es b ms) : ns = ms := natE_inj (h.1.symm.trans k.1)
theorem grid_fit {n : Nat} {fl : List Bool} {out : List (Nat × Nat)} (h : OkA fl out false) (hl : fl.length = n) (hn : n ≤ 100) (hp : out.length ≤ 65536) : out.length ≤ 65536 ∧ ∀ e ∈ out, e.1 ≤ 65536 ∧ e.2 ≤ 65536 :=
  ⟨hp, fun e he => by have := h.within e he; omega⟩
set_option maxRecDepth 100000 in
set_option maxHeartbeats 16000000 in
theorem spacePlays_walk {w : World} (x : Int) (hx1 : -9223372036854775808 ≤ x) (hx2 : x ≤ 9223372036854775807) (As : Option Addr) (cs : Nat) (os : List SOp) (hm : os.length ≤ cs ∧ cs ≤ 9223372036854775807) (hR : SopsR w As os) :
    Calls Try.prog 3 #[.int .i64 x, .slice As os.length cs] w fun e w' => e = .returned (.bool true) ∧ Below w.heap.size w w' := by
  have HR := Lib.hid hR
  clear hR
  go_enter Try.func3, Try.ntmps3
  go_wp2_with fail
  refine (alive_any w).mono ?_
  rintro e w1 ⟨rfl, hb1⟩
  have HB1 := Lib.hid hb1
  have HLG := Lib.hid (large_any (w := w1) (c := cs) (HR.out.below hb1) (by omega))
  clear hb1
  go_wp2_with fail
  refine HLG.out.mono ?_
  rintro e w2 ⟨rfl | ⟨rfl, hos, hes⟩, hb2⟩
  · have HB2 := Lib.hid (HB1.out.trans (hb2.mono HB1.out.size))
    clear hb2 HLG
    go_wp2
    go_ret
    exact ⟨rfl, HB2.out⟩
  have HB2 := Lib.hid (HB1.out.trans (hb2.mono HB1.out.size))
  have HES := Lib.hid hes
  clear hb2 HLG HB1 hes
  by_cases hneg : x < 0
  · have hd : decide (x < 0) = true := decide_eq_true hneg
    have HNB := Lib.hid (snew_bad x (.inl hneg) w2)
    go_wp2_with fail
    refine HNB.out.mono ?_
    rintro e w' ⟨rfl, rfl⟩
    have HIS := Lib.hid (is_any 1 1 w2)
    go_wp2_with fail
    refine HIS.out.mono ?_
    rintro e w' ⟨rfl, rfl⟩
    go_wp2
    go_ret
    exact ⟨rfl, HB2.out⟩
  have hd0 : decide (x < 0) = false := decide_eq_false hneg
  by_cases hbig : 65536 < x
  · have hd : decide ((65536 : Int) < x) = true := decide_eq_true hbig
    have HNB := Lib.hid (snew_bad x (.inr hbig) w2)
    go_wp2_with fail
    refine HNB.out.mono ?_
    rintro e w' ⟨rfl, rfl⟩
    have HIS := Lib.hid (is_any 1 1 w2)
    go_wp2_with fail
    refine HIS.out.mono ?_
    rintro e w' ⟨rfl, rfl⟩
    go_wp2
    go_ret
    exact ⟨rfl, HB2.out⟩
  obtain ⟨n, rfl⟩ : ∃ n : Nat, x = n := ⟨x.toNat, by omega⟩
  have hd1 : decide ((65536 : Int) < (n : Int)) = false := decide_eq_false hbig
  have hd1' : decide (65536 < n) = false := decide_eq_false (by omega)
  have HNW := Lib.hid (snew_any n (by omega) w2)
  go_wp2_with fail
  refine HNW.out.mono ?_
  rintro e w3 ⟨p, rfl, g, r, A, c, rfl, hs, hne, hg, hr, hb⟩
  have hz2 := HB2.out.size
  have hS3 : Sps w w3 g r c A (List.replicate n true) := ⟨hs, hne, HB2.out.trans (hb.mono hz2), by omega, by omega⟩
  have hl3 := slen_any hs.blk
  have hf3 := sfree_any hs.blk
  rw [cnt_all] at hf3
  rw [List.length_replicate] at hl3
  have HS3 := Lib.hid hS3
  have HL3 := Lib.hid hl3
  have HF3 := Lib.hid hf3
  clear hs hne hg hr hb hS3 HNW hl3 hf3 HB2
  go_wp2_with fail
  refine HL3.out.mono ?_
  rintro e w' ⟨rfl, rfl⟩
  clear HL3
  by_cases h100 : 100 < n
  · have hd2 : decide ((100 : Int) < (n : Int)) = true := decide_eq_true (by omega)
    have hd2' : decide (100 < n) = true := decide_eq_true h100
    go_wp2_with fail
    refine HF3.out.mono ?_
    rintro e w' ⟨rfl, rfl⟩
    go_wp2
    go_ret
    exact ⟨rfl, HS3.out.bel⟩
  have hd2 : decide ((100 : Int) < (n : Int)) = false := decide_eq_false (by omega)
  have hd2' : decide (100 < n) = false := decide_eq_false h100
  have HDN := Lib.hid (dnew_any n (by omega) w3)
  go_wp2_with fail
  refine HF3.out.mono ?_
  rintro e w' ⟨rfl, rfl⟩
  clear HF3
  go_wp2_with fail
  refine HDN.out.mono ?_
  rintro e w4 ⟨v4, rfl, hv4, hb4⟩
  obtain ⟨D, cD, rfl⟩ := hv4.form
  have hbs : ∀ w : World, (Instr.buildSlice 35 0 #[]).run Try.prog w = .ok (.slice (some ⟨w.heap.size, 0, none⟩) 0 0) (w.alloc (.cells #[] 36)) := fun w => by kernel_rfl
  have h0 : Ply w (w4.alloc (.cells #[] 36)) g r c n A D (List.replicate n true) (List.replicate n true) (.slice (some ⟨w4.heap.size, 0, none⟩) 0 0) [] := by
    have hs4 := HS3.out.below hb4
    have ha : Below w4.heap.size w4 (w4.alloc (.cells #[] 36)) := (Below.refl _ _).alloc (Nat.le_refl _) _
    have hgr := World.ownsRow_lit (base := w.heap.size) (e := 36) (size := 1) w4 #[] 0 hs4.bel.size (by simp [maxLen]) rfl
    have hdl : ∀ ad, D = some ad → w3.heap.size ≤ ad.block ∧ ad.block < w4.heap.size := fun ad hA => by
      subst hA
      exact World.ownsRow.lt hv4 ad.block rfl
    have hd4 : DocF w4 g r D (List.replicate n true) := ⟨hv4.reads.2, fun hf ad hA => by
      have h1 := hdl ad hA
      have h2 := HS3.out.at_.blk.lt
      have h3 := HS3.out.at_.rlt hf
      omega⟩
    refine ⟨hs4.below ha, hd4.below ha, ⟨hgr, (fun p hp => by cases hp)⟩, by simp, by simp, (fun p hp => by cases hp), fun hf ad hA he => ?_⟩
    injection he with he
    have := hdl ad hA
    simp at he
    omega
  have H0 := Lib.hid h0
  rw [List.length_replicate]
  clear h0 hv4 hb4 HDN HS3 hd0 hd1 hd1' hd2 hd2'
  go_wp2_with fail
  generalize w4.alloc (.cells #[] 36) = w5 at *
  clear hbs
  go_loopw [7, 8, 62] (fun mv tv i wr => ∃ (k : Nat) (r : Nat) (D : Option Addr) (cD : Nat) (fl : List Bool) (ls : List (Value × List (Nat × Nat))), k ≤ os.length ∧ i = .int .i64 k ∧ mv = .slice D n cD ∧ ls.length ≤ k ∧ Ply w wr g r c n A D fl fl tv ls) (fun _ _ i _ => os.length - (intS i).toNat)
  case atStart => exact ⟨0, r, D, cD, _, [], by omega, rfl, rfl, by simp, H0.out⟩
  case round =>
    clear H0
    obtain ⟨k, r, D, cD, fl, ls, hk, rfl, rfl, hlk, hP⟩ := hrel
    obtain ⟨wo, hwo⟩ : ∃ wo, wo = wr := ⟨_, rfl⟩
    subst hwo
    obtain ⟨AL, cL, rfl⟩ := hP.grid.form
    have HP := Lib.hid hP
    have HLK := Lib.hid hlk
    clear hP hlk
    by_cases hlt : k < os.length
    · obtain ⟨o, ho⟩ : ∃ o, os[k]? = some o := ⟨_, List.getElem?_eq_getElem hlt⟩
      have hmo := List.mem_of_getElem? ho
      obtain ⟨ad, rfl, hl, c0, c1, c2⟩ := (HR.out.below HP.out.sp.bel).at_ k o ho
      have hok := (HR.out.below HP.out.sp.bel).ok o hmo
      have hwk : IntKind.i64.wrap ((k : Int) + 1) = (k : Int) + 1 := by rw [IntKind.wrap_i64]; omega
      have HX := Lib.hid (show ∀ W, Below w.heap.size w W → ExtR W W.heap.size o.E o.es from fun W hb => ((HR.out.below hb).ok o hmo).row)
      have HI := Lib.hid hok.good
      have hel : o.es.length ≤ 20 := HES.out o hmo
      have hbs : ∀ w : World, (Instr.buildSlice 36 0 #[]).run Try.prog w = .ok (.slice (some ⟨w.heap.size, 0, none⟩) 0 0) (w.alloc (.cells #[] 45)) := fun w => by kernel_rfl
      have b1 : Below wo.heap.size wo ((wo.alloc (.cells #[.int .i64 o.k, .int .i64 o.n, .slice o.E o.es.length o.c] 38)).alloc (.cells #[] 45)) := ((Below.refl _ _).alloc (Nat.le_refl _) _).alloc (by simp) _
      have K2 : Blk ((wo.alloc (.cells #[.int .i64 o.k, .int .i64 o.n, .slice o.E o.es.length o.c] 38)).alloc (.cells #[] 45)) wo.heap.size 38 #[.int .i64 o.k, .int .i64 o.n, .slice o.E o.es.length o.c] := (Blk.new _ _ _).alloc _
      have hown : OwnE ((wo.alloc (.cells #[.int .i64 o.k, .int .i64 o.n, .slice o.E o.es.length o.c] 38)).alloc (.cells #[] 45)) w.heap.size (.slice (some ⟨wo.heap.size + 1, 0, none⟩) 0 0) [] := by
        have := World.ownsRow_lit (base := w.heap.size) (e := 45) (size := 2) (wo.alloc (.cells #[.int .i64 o.k, .int .i64 o.n, .slice o.E o.es.length o.c] 38)) #[] 0 (by have := HP.out.sp.bel.size; simp; omega) (by simp [maxLen]) rfl
        rwa [World.size_alloc] at this
      have hz := HP.out.sp.bel.size
      have H2 := Lib.hid (And.intro b1 (And.intro K2 hown))
      clear b1 K2 hown hok
      go_upto_region 19 with (first
        | (have _h := c0; refine wpList_load_sop rfl (.tmp 64) rfl _ rfl o c0 c1 c2 ?_; clear _h c0 c1 c2)
        | (have _h := hbs; refine app_ext (.tmp 66) (.tmp 68) rfl rfl w.heap.size (.slice (some ⟨wo.heap.size + 1, 0, none⟩) 0 0) [] rfl H2.out.2.2 ((wo.alloc (.cells #[.int .i64 o.k, .int .i64 o.n, .slice o.E o.es.length o.c] 38)).alloc (.cells #[] 45)).heap.size o.E o.es.length o.c o.es rfl rfl (HX.out _ (HP.out.sp.bel.trans (H2.out.1.mono hz))) (by simp; omega) (by simp; omega) ?_; intro v3 W3 h3 g3 a3; clear _h hbs))
      obtain ⟨Ac, cc, rfl, -⟩ := h3.form
      simp only [List.nil_append] at h3 ⊢
      have b3 : Below wo.heap.size wo W3 := H2.out.1.grown g3 (by simp; omega) (fun j hj => by simp [Value.ownBlock] at hj; omega)
      have hA1 : Act1 w W3 wo.heap.size cc Ac o := ⟨H2.out.2.1.grown g3 (by simp [Value.ownBlock]), h3⟩
      have hP3 := HP.out.more b3
      have p0 : W3.cell? ⟨wo.heap.size, 0, none⟩ = some (.int .i64 o.k) := hA1.blk.cell 0
      have p1 : W3.cell? ⟨wo.heap.size, 1, none⟩ = some (.int .i64 o.n) := hA1.blk.cell 1
      have p2 : W3.cell? ⟨wo.heap.size, 2, none⟩ = some (.slice o.E o.es.length o.c) := hA1.blk.cell 2
      have H3 := Lib.hid (And.intro hP3 hA1)
      have hl3 := hP3.lenS
      clear h3 g3 a3 b3 hA1 hP3 H2 HP
      generalize wo.heap.size = gb at *
      by_cases hk1 : o.k = 1
      · have hq1 : (o.k == 1) = true := by simp [hk1]
        have HK1 := Lib.hid hk1
        have HTK := Lib.hid (take_R o.n H3.out.1.sp)
        clear hk1
        go_wp2_with fail
        refine HTK.out.mono ?_
        rintro e4 W4 ⟨hT4, hR4, hz4, r4, hr4, h4⟩
        have hA4 := H3.out.2.keep hT4
        have p1' : W4.cell? ⟨gb, 1, none⟩ = some (.int .i64 o.n) := hA4.blk.cell 1
        clear HTK p0 p1 p2
        rcases h4 with ⟨hneg4, rfl, hs4⟩ | ⟨hbig4, rfl, hs4⟩ | ⟨k4, v4, out, hk4, hle4, rfl, hv4, hch4, hs4⟩
        · have hP4 := H3.out.1.call hT4 hR4 hz4 hr4 hs4 hl3
          have HDT := Lib.hid (dtake_any (w := W4) (c := cD) o.n (fl := fl) (by omega) hP4.doc.reads (Nat.le_refl _))
          rw [hl3] at HDT
          have H4 := Lib.hid (And.intro hP4 hA4)
          clear hP4 hA4 hs4 hT4 hR4 hz4 hr4
          simp only [errV]
          go_wp2_with fail
          refine HDT.out.mono ?_
          rintro e5 W5 ⟨hb5, h5⟩
          have he5 : e5 = .returned (.tuple #[.slice D n cD, .slice none 0 0, .int .i64 1]) := by
            rcases h5 with ⟨h6, he⟩ | ⟨h6, he⟩ | ⟨k6, A6, c6, lv6, out6, h6, hk6, he, _⟩
            · rw [he, hl3]
            · omega
            · omega
          subst he5
          have hP5 := H4.out.1.more hb5
          have hA5 := H4.out.2.keep (KeepT.below hb5)
          have HSM0 := Lib.hid (lsame_any (w := W5) (B1 := 0) (B2 := 0) (A1 := none) (A2 := none) (c1 := 0) (c2 := 0) [] [] Reads.none_ Reads.none_ (by simp) (by simp) (by omega) (by omega))
          have H5 := Lib.hid (And.intro hP5 hA5)
          clear h5 hb5 hP5 hA5 H4 HDT p1'
          go_wp2_with fail
          refine HSM0.out.mono ?_
          rintro e6 W6 ⟨rfl, hb6⟩
          have H6 := Lib.hid (And.intro (H5.out.1.more hb6) (H5.out.2.keep (KeepT.below hb6)))
          first | rw [show decide True = true from rfl] | rw [show decide (([] : List (Int × Int)) = []) = true from rfl]
          clear H5 HSM0 hb6
          go_wp2_with fail
          go_loopw [108] (fun i wr => i = .int .i64 0 ∧ wr = W6) (fun i _ => 0)
          case atStart => exact ⟨rfl, by trivial⟩
          case round =>
            obtain ⟨rfl, rfl⟩ := hrel
            obtain ⟨wp, hwp⟩ : ∃ wp, wp = wr := ⟨_, rfl⟩
            subst hwp
            have hbr := build_row none 0 0
            have HVAL : Hid (OwnE wp w.heap.size (Value.slice none 0 0) (natE ([] : List (Nat × Nat)))) := Lib.hid (OwnE.nil _ _)
            go_upto_region 42 with (have _h := hbr; refine app_grid2 (.tmp 116) (.tmp 118) rfl rfl (.slice AL ls.length cL) ls rfl ((H6.out.1).grid.keep (KeepT.below ((Below.refl _ _).alloc (Nat.le_refl _) _))) (Value.slice none 0 0) ([] : List (Nat × Nat)) (HVAL.out.under2 ((Below.refl _ _).alloc (Nat.le_refl _) _)) (wp).heap.size 1 rfl ((Blk.new wp 36 #[(Value.slice none 0 0)]).cell 0) (by have := HLK.out; omega) (by have := (H6.out.1).sp.bel.size; simp; omega) ?_; intro lv2 W7 hG7 hg7 hr7 hn7; clear _h hbr)
            have hP7 := (H6.out.1).app hg7 hr7 hG7 hn7 ⟨by simp, by simp⟩
            have hA7 := (H6.out.2).grown hg7 hr7
            obtain ⟨A7, c7, rfl⟩ := hG7.form
            have hll : (ls ++ [((Value.slice none 0 0), ([] : List (Nat × Nat)))]).length ≤ k + 1 := by have := HLK.out; simp; omega
            have HTL := Lib.hid (And.intro hP7 (And.intro hA7 hll))
            clear hG7 hg7 hr7 hn7 hP7 hA7 hll HVAL
            generalize hLS : ls ++ [((Value.slice none 0 0), ([] : List (Nat × Nat)))] = LS at *
            clear hLS

            have HNM := Lib.hid (num_any 1 W7)
            go_wp2_with fail
            refine HNM.out.mono ?_
            rintro e w' ⟨rfl, rfl⟩
            have z2 : (W7).cell? ⟨gb, 2, none⟩ = some (.slice o.E o.es.length o.c) := HTL.out.2.1.blk.cell 2
            have HSM := Lib.hid (lsame_any (w := W7) (c1 := cc) (c2 := o.c) o.es o.es HTL.out.2.1.own.ext (HX.out _ HTL.out.1.sp.bel) (by omega) (by omega) (Nat.le_refl _) (Nat.le_refl _))
            clear HNM
            go_wp2_with fail
            refine HSM.out.mono ?_
            rintro e w20 ⟨rfl, hb20⟩
            have hP20 := HTL.out.1.more hb20
            have HZ := Lib.hid (lstands_any (cD := cD) hP20.sp hP20.doc.reads)
            rw [hP20.lenS] at HZ
            have HP20 := Lib.hid hP20
            have hdt : decide (o.es = o.es) = true := decide_eq_true rfl
            clear HSM hb20 hP20 z2
            first | rw [hdt] | rw [show decide True = true from rfl]
            go_wp2_with fail
            refine HZ.out.mono ?_
            rintro e w21 ⟨rfl, hb21⟩
            have HP21 := Lib.hid (HP20.out.more hb21)
            have hlk21 := HTL.out.2.2
            have HLK21 := Lib.hid hlk21
            clear hb21 HZ HP20 HTL hlk21
            go_wp2
            go_roundw
            case rel => exact ⟨k + 1, r4, D, cD, fl, LS, by omega, by go_num, rfl, HLK21.out, HP21.out⟩
            case measure => simp [intS]; omega
        · have hP4 := H3.out.1.call hT4 hR4 hz4 hr4 hs4 hl3
          have HDT := Lib.hid (dtake_any (w := W4) (c := cD) o.n (fl := fl) (by omega) hP4.doc.reads (Nat.le_refl _))
          rw [hl3] at HDT
          have H4 := Lib.hid (And.intro hP4 hA4)
          clear hP4 hA4 hs4 hT4 hR4 hz4 hr4
          simp only [errV]
          go_wp2_with fail
          refine HDT.out.mono ?_
          rintro e5 W5 ⟨hb5, h5⟩
          have he5 : e5 = .returned (.tuple #[.slice D n cD, .slice none 0 0, .int .i64 4]) := by
            rcases h5 with ⟨h6, he⟩ | ⟨h6, he⟩ | ⟨k6, A6, c6, lv6, out6, h6, hk6, he, _⟩
            · omega
            · rw [he, hl3]
            · omega
          subst he5
          have hP5 := H4.out.1.more hb5
          have hA5 := H4.out.2.keep (KeepT.below hb5)
          have HSM0 := Lib.hid (lsame_any (w := W5) (B1 := 0) (B2 := 0) (A1 := none) (A2 := none) (c1 := 0) (c2 := 0) [] [] Reads.none_ Reads.none_ (by simp) (by simp) (by omega) (by omega))
          have H5 := Lib.hid (And.intro hP5 hA5)
          clear h5 hb5 hP5 hA5 H4 HDT p1'
          go_wp2_with fail
          refine HSM0.out.mono ?_
          rintro e6 W6 ⟨rfl, hb6⟩
          have H6 := Lib.hid (And.intro (H5.out.1.more hb6) (H5.out.2.keep (KeepT.below hb6)))
          first | rw [show decide True = true from rfl] | rw [show decide (([] : List (Int × Int)) = []) = true from rfl]
          clear H5 HSM0 hb6
          go_wp2_with fail
          go_loopw [108] (fun i wr => i = .int .i64 0 ∧ wr = W6) (fun i _ => 0)
          case atStart => exact ⟨rfl, by trivial⟩
          case round =>
            obtain ⟨rfl, rfl⟩ := hrel
            obtain ⟨wp, hwp⟩ : ∃ wp, wp = wr := ⟨_, rfl⟩
            subst hwp
            have hbr := build_row none 0 0
            have HVAL : Hid (OwnE wp w.heap.size (Value.slice none 0 0) (natE ([] : List (Nat × Nat)))) := Lib.hid (OwnE.nil _ _)
            go_upto_region 42 with (have _h := hbr; refine app_grid2 (.tmp 116) (.tmp 118) rfl rfl (.slice AL ls.length cL) ls rfl ((H6.out.1).grid.keep (KeepT.below ((Below.refl _ _).alloc (Nat.le_refl _) _))) (Value.slice none 0 0) ([] : List (Nat × Nat)) (HVAL.out.under2 ((Below.refl _ _).alloc (Nat.le_refl _) _)) (wp).heap.size 1 rfl ((Blk.new wp 36 #[(Value.slice none 0 0)]).cell 0) (by have := HLK.out; omega) (by have := (H6.out.1).sp.bel.size; simp; omega) ?_; intro lv2 W7 hG7 hg7 hr7 hn7; clear _h hbr)
            have hP7 := (H6.out.1).app hg7 hr7 hG7 hn7 ⟨by simp, by simp⟩
            have hA7 := (H6.out.2).grown hg7 hr7
            obtain ⟨A7, c7, rfl⟩ := hG7.form
            have hll : (ls ++ [((Value.slice none 0 0), ([] : List (Nat × Nat)))]).length ≤ k + 1 := by have := HLK.out; simp; omega
            have HTL := Lib.hid (And.intro hP7 (And.intro hA7 hll))
            clear hG7 hg7 hr7 hn7 hP7 hA7 hll HVAL
            generalize hLS : ls ++ [((Value.slice none 0 0), ([] : List (Nat × Nat)))] = LS at *
            clear hLS

            have HNM := Lib.hid (num_any 4 W7)
            go_wp2_with fail
            refine HNM.out.mono ?_
            rintro e w' ⟨rfl, rfl⟩
            have z2 : (W7).cell? ⟨gb, 2, none⟩ = some (.slice o.E o.es.length o.c) := HTL.out.2.1.blk.cell 2
            have HSM := Lib.hid (lsame_any (w := W7) (c1 := cc) (c2 := o.c) o.es o.es HTL.out.2.1.own.ext (HX.out _ HTL.out.1.sp.bel) (by omega) (by omega) (Nat.le_refl _) (Nat.le_refl _))
            clear HNM
            go_wp2_with fail
            refine HSM.out.mono ?_
            rintro e w20 ⟨rfl, hb20⟩
            have hP20 := HTL.out.1.more hb20
            have HZ := Lib.hid (lstands_any (cD := cD) hP20.sp hP20.doc.reads)
            rw [hP20.lenS] at HZ
            have HP20 := Lib.hid hP20
            have hdt : decide (o.es = o.es) = true := decide_eq_true rfl
            clear HSM hb20 hP20 z2
            first | rw [hdt] | rw [show decide True = true from rfl]
            go_wp2_with fail
            refine HZ.out.mono ?_
            rintro e w21 ⟨rfl, hb21⟩
            have HP21 := Lib.hid (HP20.out.more hb21)
            have hlk21 := HTL.out.2.2
            have HLK21 := Lib.hid hlk21
            clear hb21 HZ HP20 HTL hlk21
            go_wp2
            go_roundw
            case rel => exact ⟨k + 1, r4, D, cD, fl, LS, by omega, by go_num, rfl, HLK21.out, HP21.out⟩
            case measure => simp [intS]; omega
        · have hlo : (setA fl out false).length = n := by rw [((hch4.ok (hol_sound fl)).1).len]; exact hl3
          have hP4 := H3.out.1.call hT4 hR4 hz4 hr4 hs4 hlo
          have hok4 := (hch4.ok (hol_sound fl)).1
          have hof : out.length ≤ 65536 := by have h1 := hch4.few.1; have h2 := hol_few fl; have h3 := cnt_le fl; omega
          have hfit := grid_fit hok4 hl3 (by omega) hof
          rcases Nat.eq_zero_or_pos out.length with ho0 | ho0
          · have hnp : ¬ (0 < out.length) := by omega
            have hd0 : decide ((0 : Int) < (out.length : Int)) = false := decide_eq_false (by omega)
            have HO0 := Lib.hid ho0
            clear ho0
            have HK4 := Lib.hid hk4
            clear hk4
            have HDT := Lib.hid (dtake_any (w := W4) (c := cD) o.n (fl := fl) (by omega) hP4.doc.reads (Nat.le_refl _))
            rw [hl3] at HDT
            have H4 := Lib.hid (And.intro hP4 (And.intro hA4 (And.intro hv4 (And.intro hT4 (And.intro hok4 hfit)))))
            obtain ⟨A4, c4, rfl, -⟩ := hv4.form
            rw [show (natE out).length = out.length from by simp [natE]] at H4 ⊢
            have HCH := Lib.hid hch4
            have hbl4 : ∀ k', (Value.slice A4 out.length c4).ownBlock = some k' → W3.heap.size ≤ k' ∧ k' < W4.heap.size := fun k' hk' => World.ownsRow.lt H4.out.2.2.1 k' hk'
            have HBL := Lib.hid hbl4
            have HZ4 := Lib.hid hz4
            clear hP4 hA4 hs4 hT4 hR4 hz4 hr4 hv4 hch4 hok4 hfit hbl4
            go_wp2_with fail
            refine HDT.out.mono ?_
            rintro e5 W5 ⟨hb5, h5⟩
            obtain ⟨D5, cD5, lv5, rfl, hv5, hd5⟩ : ∃ (D5 : Option Addr) (c5 : Nat) (lv : Value), e5 = .returned (.tuple #[.slice D5 n c5, lv, .int .i64 0]) ∧ OwnE W5 W4.heap.size lv (natE out) ∧ DRow W4 W5 D D5 (setA fl out false) := by
              have hk4 := HK4.out
              rcases h5 with ⟨h6, he⟩ | ⟨h6, he⟩ | ⟨k6, A6, c6, lv6, out6, h6, hk6, he, hch6, hv6, hd6, hok6⟩
              · omega
              · omega
              · have hkk : k6 = k4 := by omega
                subst hkk
                have hoo := hch6.one HCH.out
                subst hoo
                exact ⟨A6, c6, lv6, by rw [he, hl3], hv6, hd6⟩
            have hP5 := H4.out.1.docs hb5 hd5
            have hA5 := H4.out.2.1.keep (KeepT.below hb5)
            obtain ⟨A5, c5, rfl, -⟩ := hv5.form
            rw [show (natE out).length = out.length from by simp [natE]] at hv5 ⊢
            have hx4 : ExtR W5 W4.heap.size A4 (natE out) := by
              have := H4.out.2.2.1
              have h2 : ExtR W4 W4.heap.size A4 (natE out) := OwnE.ext (c := c4) (base := W3.heap.size) (by rw [show (natE out).length = out.length from by simp [natE]]; exact this)
              exact h2.below hb5
            have hx5 : ExtR W5 W5.heap.size A5 (natE out) := OwnE.ext (c := c5) (base := W4.heap.size) (by rw [show (natE out).length = out.length from by simp [natE]]; exact hv5)
            have hsm := lsame_any (c1 := c4) (c2 := c5) (natE out) (natE out) hx4 hx5 (by simp [natE]; omega) (by simp [natE]; omega) hb5.size (Nat.le_refl _)
            rw [show (natE out).length = out.length from by simp [natE]] at hsm
            have HSM0 := Lib.hid hsm
            have hdn : ∀ ad', D5 = some ad' → setA fl out false ≠ [] → ad'.block < W3.heap.size ∨ W4.heap.size ≤ ad'.block := fun ad' hA hne => by
              rcases hd5.new with e | e
              · left
                have hne' : fl ≠ [] := ne_of_len H4.out.1.lenS H4.out.1.lenD hne
                obtain ⟨ad6, e6, hb6, _⟩ := H3.out.1.doc.reads.2 (by cases fl with | nil => exact absurd rfl hne' | cons => simp)
                rw [← e, hA] at e6
                injection e6 with e6
                subst e6
                exact hb6
              · exact .inr (e ad' hA)
            have H5 := Lib.hid (And.intro hP5 (And.intro hA5 (And.intro hv5 (And.intro hdn hb5))))
            clear h5 hb5 hP5 hA5 HDT p1' hv5 hd5 hx4 hx5 hsm hdn
            go_wp2_with fail
            refine HSM0.out.mono ?_
            rintro e6 W6 ⟨rfl, hb6⟩
            first | rw [show decide (natE out = natE out) = true from decide_eq_true rfl] | rw [show decide True = true from rfl]

            have hz5 := H5.out.2.2.2.2.size
            have hz6 := hb6.size
            have hv6 : OwnE W6 w.heap.size (.slice A5 out.length c5) (natE out) := by
              have h := H5.out.2.2.1
              exact (h.under2 hb6).weaken (base' := w.heap.size) (by have := H3.out.1.sp.bel.size; have := HZ4.out; omega)
            have H6 := Lib.hid (And.intro (H5.out.1.more hb6) (And.intro (H5.out.2.1.keep (KeepT.below hb6)) hv6))
            have HFIT := Lib.hid H4.out.2.2.2.2.2
            clear hb6 HSM0 hz5 hz6 hv6
            go_wp2_with fail
            go_loopw [108] (fun i wr => i = .int .i64 0 ∧ wr = W6) (fun i _ => 0)
            case atStart => exact ⟨rfl, by trivial⟩
            case round =>
              obtain ⟨rfl, rfl⟩ := hrel
              obtain ⟨wp, hwp⟩ : ∃ wp, wp = wr := ⟨_, rfl⟩
              subst hwp
              have hbr := build_row A5 out.length c5
              have HVAL : Hid (OwnE wp w.heap.size (Value.slice A5 out.length c5) (natE out)) := Lib.hid (H6.out.2.2)
              go_upto_region 42 with (have _h := hbr; refine app_grid2 (.tmp 116) (.tmp 118) rfl rfl (.slice AL ls.length cL) ls rfl ((H6.out.1).grid.keep (KeepT.below ((Below.refl _ _).alloc (Nat.le_refl _) _))) (Value.slice A5 out.length c5) out (HVAL.out.under2 ((Below.refl _ _).alloc (Nat.le_refl _) _)) (wp).heap.size 1 rfl ((Blk.new wp 36 #[(Value.slice A5 out.length c5)]).cell 0) (by have := HLK.out; omega) (by have := (H6.out.1).sp.bel.size; simp; omega) ?_; intro lv2 W7 hG7 hg7 hr7 hn7; clear _h hbr)
              have hP7 := (H6.out.1).app hg7 hr7 hG7 hn7 HFIT.out
              have hA7 := (H6.out.2.1).grown hg7 hr7
              obtain ⟨A7, c7, rfl⟩ := hG7.form
              have hll : (ls ++ [((Value.slice A5 out.length c5), out)]).length ≤ k + 1 := by have := HLK.out; simp; omega
              have HTL := Lib.hid (And.intro hP7 (And.intro hA7 hll))
              clear hG7 hg7 hr7 hn7 hP7 hA7 hll HVAL
              generalize hLS : ls ++ [((Value.slice A5 out.length c5), out)] = LS at *
              clear hLS

              have HNM := Lib.hid (num_any 0 W7)
              go_wp2_with fail
              refine HNM.out.mono ?_
              rintro e w' ⟨rfl, rfl⟩
              have z2 : (W7).cell? ⟨gb, 2, none⟩ = some (.slice o.E o.es.length o.c) := HTL.out.2.1.blk.cell 2
              have HSM := Lib.hid (lsame_any (w := W7) (c1 := cc) (c2 := o.c) o.es o.es HTL.out.2.1.own.ext (HX.out _ HTL.out.1.sp.bel) (by omega) (by omega) (Nat.le_refl _) (Nat.le_refl _))
              clear HNM
              go_wp2_with fail
              refine HSM.out.mono ?_
              rintro e w20 ⟨rfl, hb20⟩
              have hP20 := HTL.out.1.more hb20
              have HZ := Lib.hid (lstands_any (cD := cD5) hP20.sp hP20.doc.reads)
              rw [hP20.lenS] at HZ
              have HP20 := Lib.hid hP20
              have hdt : decide (o.es = o.es) = true := decide_eq_true rfl
              clear HSM hb20 hP20 z2
              first | rw [hdt] | rw [show decide True = true from rfl]
              go_wp2_with fail
              refine HZ.out.mono ?_
              rintro e w21 ⟨rfl, hb21⟩
              have HP21 := Lib.hid (HP20.out.more hb21)
              have hlk21 := HTL.out.2.2
              have HLK21 := Lib.hid hlk21
              clear hb21 HZ HP20 HTL hlk21
              go_wp2
              go_roundw
              case rel => exact ⟨k + 1, r4, D5, cD5, (setA fl out false), LS, by omega, by go_num, rfl, HLK21.out, HP21.out⟩
              case measure => simp [intS]; omega
          · have HK4 := Lib.hid hk4
            clear hk4
            have HDT := Lib.hid (dtake_any (w := W4) (c := cD) o.n (fl := fl) (by omega) hP4.doc.reads (Nat.le_refl _))
            rw [hl3] at HDT
            have H4 := Lib.hid (And.intro hP4 (And.intro hA4 (And.intro hv4 (And.intro hT4 (And.intro hok4 hfit)))))
            obtain ⟨A4, c4, rfl, -⟩ := hv4.form
            rw [show (natE out).length = out.length from by simp [natE]] at H4 ⊢
            have HCH := Lib.hid hch4
            have hbl4 : ∀ k', (Value.slice A4 out.length c4).ownBlock = some k' → W3.heap.size ≤ k' ∧ k' < W4.heap.size := fun k' hk' => World.ownsRow.lt H4.out.2.2.1 k' hk'
            have HBL := Lib.hid hbl4
            have HZ4 := Lib.hid hz4
            clear hP4 hA4 hs4 hT4 hR4 hz4 hr4 hv4 hch4 hok4 hfit hbl4
            go_wp2_with fail
            refine HDT.out.mono ?_
            rintro e5 W5 ⟨hb5, h5⟩
            obtain ⟨D5, cD5, lv5, rfl, hv5, hd5⟩ : ∃ (D5 : Option Addr) (c5 : Nat) (lv : Value), e5 = .returned (.tuple #[.slice D5 n c5, lv, .int .i64 0]) ∧ OwnE W5 W4.heap.size lv (natE out) ∧ DRow W4 W5 D D5 (setA fl out false) := by
              have hk4 := HK4.out
              rcases h5 with ⟨h6, he⟩ | ⟨h6, he⟩ | ⟨k6, A6, c6, lv6, out6, h6, hk6, he, hch6, hv6, hd6, hok6⟩
              · omega
              · omega
              · have hkk : k6 = k4 := by omega
                subst hkk
                have hoo := hch6.one HCH.out
                subst hoo
                exact ⟨A6, c6, lv6, by rw [he, hl3], hv6, hd6⟩
            have hP5 := H4.out.1.docs hb5 hd5
            have hA5 := H4.out.2.1.keep (KeepT.below hb5)
            obtain ⟨A5, c5, rfl, -⟩ := hv5.form
            rw [show (natE out).length = out.length from by simp [natE]] at hv5 ⊢
            have hx4 : ExtR W5 W4.heap.size A4 (natE out) := by
              have := H4.out.2.2.1
              have h2 : ExtR W4 W4.heap.size A4 (natE out) := OwnE.ext (c := c4) (base := W3.heap.size) (by rw [show (natE out).length = out.length from by simp [natE]]; exact this)
              exact h2.below hb5
            have hx5 : ExtR W5 W5.heap.size A5 (natE out) := OwnE.ext (c := c5) (base := W4.heap.size) (by rw [show (natE out).length = out.length from by simp [natE]]; exact hv5)
            have hsm := lsame_any (c1 := c4) (c2 := c5) (natE out) (natE out) hx4 hx5 (by simp [natE]; omega) (by simp [natE]; omega) hb5.size (Nat.le_refl _)
            rw [show (natE out).length = out.length from by simp [natE]] at hsm
            have HSM0 := Lib.hid hsm
            have hdn : ∀ ad', D5 = some ad' → setA fl out false ≠ [] → ad'.block < W3.heap.size ∨ W4.heap.size ≤ ad'.block := fun ad' hA hne => by
              rcases hd5.new with e | e
              · left
                have hne' : fl ≠ [] := ne_of_len H4.out.1.lenS H4.out.1.lenD hne
                obtain ⟨ad6, e6, hb6, _⟩ := H3.out.1.doc.reads.2 (by cases fl with | nil => exact absurd rfl hne' | cons => simp)
                rw [← e, hA] at e6
                injection e6 with e6
                subst e6
                exact hb6
              · exact .inr (e ad' hA)
            have H5 := Lib.hid (And.intro hP5 (And.intro hA5 (And.intro hv5 (And.intro hdn hb5))))
            clear h5 hb5 hP5 hA5 HDT p1' hv5 hd5 hx4 hx5 hsm hdn
            go_wp2_with fail
            refine HSM0.out.mono ?_
            rintro e6 W6 ⟨rfl, hb6⟩
            first | rw [show decide (natE out = natE out) = true from decide_eq_true rfl] | rw [show decide True = true from rfl]

            have hkt6 : KeepT W3 W6 := H4.out.2.2.2.1.trans (KeepT.below (H5.out.2.2.2.2.trans (hb6.mono H5.out.2.2.2.2.size)))
            obtain ⟨bl, c4', hbl, hbl1, hbl2⟩ : ∃ bl c4', Value.slice A4 out.length c4 = .slice (some ⟨bl, 0, none⟩) out.length c4' ∧ W3.heap.size ≤ bl ∧ bl < W4.heap.size := by
              rcases H4.out.2.2.1.2 with ⟨e, h0⟩ | ⟨bl, c4', cur, e, _⟩
              · have h00 : (natE out).length = out.length := by simp [natE]
                omega
              · have := HBL.out bl (by rw [e]; rfl)
                exact ⟨bl, c4', by rw [e]; simp [natE], this.1, this.2⟩
            injection hbl with hA4' _ hc4'
            subst hA4' hc4'
            have hz5 := H5.out.2.2.2.2.size
            have hz6 := hb6.size
            have ho6 : ∃ xs, W6.ownsRow W3.heap.size 45 2 (.slice (some ⟨bl, 0, none⟩) out.length c4) out.length xs := by
              refine ⟨extS (natE out), row_of (w := W4) (by have := H4.out.2.2.1; unfold OwnE at this; rwa [show (natE out).length = out.length from by simp [natE]] at this) fun k' hk' => ?_⟩
              have hk2 := HBL.out k' (mem_rowOf.1 hk')
              exact (hb6.block k' (by omega)).trans (H5.out.2.2.2.2.block k' hk2.2)
            have hP6 := H5.out.1.more hb6
            have hv6 : OwnE W6 W4.heap.size (.slice A5 out.length c5) (natE out) := by
              have h := H5.out.2.2.1
              exact h.under2 hb6
            have H6 := Lib.hid (And.intro hP6 (And.intro hv6 (And.intro hkt6 ho6)))
            have HZZ := Lib.hid (And.intro hz5 (And.intro hz6 (And.intro HZ4.out (And.intro hbl1 hbl2))))
            have hzv : ∀ w : World, (Instr.build 45 #[]).run Try.prog w = .ok (.agg #[.int .i64 0, .int .i64 0]) w := fun w => by kernel_rfl
            clear hP6 hv6 hkt6 ho6 hb6 HSM0 hz5 hz6 hbl1 hbl2
            go_wp2_with fail
            go_loopw [108] (fun i wr => ∃ q : Nat, q ≤ out.length ∧ i = .int .i64 q ∧ Only [bl] W6 wr ∧ ∃ xs, wr.ownsRow W3.heap.size 45 2 (.slice (some ⟨bl, 0, none⟩) out.length c4) out.length xs) (fun i _ => out.length - (intS i).toNat)
            case atStart => exact ⟨0, by omega, rfl, Only.refl _ _, H6.out.2.2.2⟩
            case round =>
              obtain ⟨q, hq, rfl, hOn, xs, hxs⟩ := hrel
              obtain ⟨wp, hwp⟩ : ∃ wp, wp = wr := ⟨_, rfl⟩
              subst hwp
              by_cases hlq : q < out.length
              · have hxl := hxs.1
                obtain ⟨u0, hu0⟩ : ∃ u, xs[q * 2]? = some u := ⟨_, List.getElem?_eq_getElem (by omega)⟩
                obtain ⟨u1, hu1⟩ : ∃ u, xs[q * 2 + 1]? = some u := ⟨_, List.getElem?_eq_getElem (by omega)⟩
                have y0 : wp.cell? ⟨bl, q * 2, none⟩ = some u0 := (World.ownsRow.cellAt hxs (q * 2) (by omega)).trans hu0
                have y1 : wp.cell? ⟨bl, q * 2 + 1, none⟩ = some u1 := (World.ownsRow.cellAt hxs (q * 2 + 1) (by omega)).trans hu1
                have f0 : wp.frozen? ⟨bl, q * 2, none⟩ = false := World.ownsRow.frozenAt hxs _
                have f1 : wp.frozen? ⟨bl, q * 2 + 1, none⟩ = false := World.ownsRow.frozenAt hxs _
                have hs1 := (World.ownsRow.stored hxs (q * 2) (.int .i64 0)).1
                have hs2 := (World.ownsRow.stored hs1 (q * 2 + 1) (.int .i64 0)).1
                have HN := Lib.hid (And.intro ((hOn.setCell (p := ⟨bl, q * 2, none⟩) (.inl (by simp)) (.int .i64 0)).setCell (p := ⟨bl, q * 2 + 1, none⟩) (.inl (by simp)) (.int .i64 0)) hs2)
                have hwq : IntKind.i64.wrap ((q : Int) + 1) = (q : Int) + 1 := by rw [IntKind.wrap_i64]; omega
                clear hOn hxs hs1 hs2 hu0 hu1 hxl
                go_wp2
                go_roundw
                case rel => exact ⟨q + 1, by omega, by go_num, HN.out.1, _, HN.out.2⟩
                case measure => simp [intS]; omega
              · obtain rfl : q = out.length := by omega
                have hzz := HZZ.out
                have hkt : KeepT W3 wp := keepT_only H6.out.2.2.1 hOn (by omega) (by omega)
                have hbw : Below w.heap.size w wp := ((Only.of_below H6.out.1.sp.bel []).trans hOn (fun _ h => by simp at h; subst h; have := H3.out.1.sp.bel.size; exact .inr (by omega))).nil
                obtain ⟨cbl, hbb⟩ := own_typed hxs (k := bl) rfl
                obtain ⟨xs6, hxs6⟩ := H6.out.2.2.2
                obtain ⟨cb6, hb6'⟩ := own_typed hxs6 (k := bl) rfl
                have hsp := H6.out.1.sp.keepB (KeepB.of_only hb6' hOn (by decide) (by decide)) hbw
                have hdoc : DocF wp g r4 D5 (setA fl out false) := by
                  refine ⟨⟨H6.out.1.doc.reads.1, fun hn => ?_⟩, H6.out.1.doc.far⟩
                  obtain ⟨ad6, e6, hb7, hc7⟩ := H6.out.1.doc.reads.2 hn
                  have hne : setA fl out false ≠ [] := fun e => by rw [e] at hn; simp at hn
                  have hd := H5.out.2.2.2.1 ad6 e6 hne
                  refine ⟨ad6, e6, Nat.lt_of_lt_of_le hb7 hOn.size, fun j u hu => ?_⟩
                  have : wp.cell? (ad6.add j) = W6.cell? (ad6.add j) := World.cell?_of_block (by rw [block_of_add]; exact hOn.block ad6.block hb7 (by simp; omega))
                  rw [this]
                  exact hc7 j u hu
                have hgr := H3.out.1.grid.keep hkt
                have hact := H3.out.2.keep hkt
                have hply : Ply w wp g r4 c n A D5 (setA fl out false) (setA fl out false) (.slice AL ls.length cL) ls := ⟨hsp, hdoc, hgr, H6.out.1.lenS, H6.out.1.lenD, H6.out.1.fit, H6.out.1.out⟩
                have hv7 : OwnE wp W4.heap.size (.slice A5 out.length c5) (natE out) := row_of H6.out.2.1 fun k' hk' => by
                  have hk2 := World.ownsRow.lt H6.out.2.1 k' (mem_rowOf.1 hk')
                  exact hOn.block k' hk2.2 (by simp; omega)
                have HQ := Lib.hid (And.intro hply (And.intro hact (hv7.weaken (base' := w.heap.size) (by have := H3.out.1.sp.bel.size; omega))))
                have HFIT := Lib.hid H4.out.2.2.2.2.2
                clear hkt hbw hsp hdoc hgr hact hply hv7 hOn hxs hbb hxs6 hb6' hzz hzv
                have hbr := build_row A5 out.length c5
                have HVAL : Hid (OwnE wp w.heap.size (Value.slice A5 out.length c5) (natE out)) := Lib.hid (HQ.out.2.2)
                go_upto_region 42 with (have _h := hbr; refine app_grid2 (.tmp 116) (.tmp 118) rfl rfl (.slice AL ls.length cL) ls rfl ((HQ.out.1).grid.keep (KeepT.below ((Below.refl _ _).alloc (Nat.le_refl _) _))) (Value.slice A5 out.length c5) out (HVAL.out.under2 ((Below.refl _ _).alloc (Nat.le_refl _) _)) (wp).heap.size 1 rfl ((Blk.new wp 36 #[(Value.slice A5 out.length c5)]).cell 0) (by have := HLK.out; omega) (by have := (HQ.out.1).sp.bel.size; simp; omega) ?_; intro lv2 W7 hG7 hg7 hr7 hn7; clear _h hbr)
                have hP7 := (HQ.out.1).app hg7 hr7 hG7 hn7 HFIT.out
                have hA7 := (HQ.out.2.1).grown hg7 hr7
                obtain ⟨A7, c7, rfl⟩ := hG7.form
                have hll : (ls ++ [((Value.slice A5 out.length c5), out)]).length ≤ k + 1 := by have := HLK.out; simp; omega
                have HTL := Lib.hid (And.intro hP7 (And.intro hA7 hll))
                clear hG7 hg7 hr7 hn7 hP7 hA7 hll HVAL
                generalize hLS : ls ++ [((Value.slice A5 out.length c5), out)] = LS at *
                clear hLS

                have HNM := Lib.hid (num_any 0 W7)
                go_wp2_with fail
                refine HNM.out.mono ?_
                rintro e w' ⟨rfl, rfl⟩
                have z2 : (W7).cell? ⟨gb, 2, none⟩ = some (.slice o.E o.es.length o.c) := HTL.out.2.1.blk.cell 2
                have HSM := Lib.hid (lsame_any (w := W7) (c1 := cc) (c2 := o.c) o.es o.es HTL.out.2.1.own.ext (HX.out _ HTL.out.1.sp.bel) (by omega) (by omega) (Nat.le_refl _) (Nat.le_refl _))
                clear HNM
                go_wp2_with fail
                refine HSM.out.mono ?_
                rintro e w20 ⟨rfl, hb20⟩
                have hP20 := HTL.out.1.more hb20
                have HZ := Lib.hid (lstands_any (cD := cD5) hP20.sp hP20.doc.reads)
                rw [hP20.lenS] at HZ
                have HP20 := Lib.hid hP20
                have hdt : decide (o.es = o.es) = true := decide_eq_true rfl
                clear HSM hb20 hP20 z2
                first | rw [hdt] | rw [show decide True = true from rfl]
                go_wp2_with fail
                refine HZ.out.mono ?_
                rintro e w21 ⟨rfl, hb21⟩
                have HP21 := Lib.hid (HP20.out.more hb21)
                have hlk21 := HTL.out.2.2
                have HLK21 := Lib.hid hlk21
                clear hb21 HZ HP20 HTL hlk21
                go_wp2
                go_roundw
                case rel => exact ⟨k + 1, r4, D5, cD5, (setA fl out false), LS, by omega, by go_num, rfl, HLK21.out, HP21.out⟩
                case measure => simp [intS]; omega
      · have hq1 : (o.k == 1) = false := by simpa using hk1
        by_cases hk2 : o.k = 2
        · have hq2 : (o.k == 2) = true := by simp [hk2]
          have HK2 := Lib.hid hk2
          have HK1 := Lib.hid hk1
          clear hk1 hk2
          rcases Nat.eq_zero_or_pos ls.length with hl0 | hl0
          · have hb0 : ((ls.length : Int) == 0) = true := by simp [hl0]
            have HN := Lib.hid (H3.out.1)
            have hlk := HLK.out
            have HL0 := Lib.hid hl0
            clear hl0
            go_wp2
            go_roundw
            case rel => exact ⟨k + 1, r, D, cD, fl, ls, by omega, by go_num, rfl, by omega, HN.out⟩
            case measure => simp [intS]; omega
          · have hb0 : ((ls.length : Int) == 0) = false := beq_eq_false_iff_ne.2 (by omega)
            obtain ⟨kk, hkk, hkx⟩ := modq o.n ls.length hl0 (by have := HLK.out; omega)
            have hwq : IntKind.u64.wrap (ls.length : Int) = (ls.length : Int) := by have := HLK.out; rw [IntKind.wrap_u64]; omega
            have hq0 : ¬ (ls.length = 0) := by omega
            have hq1' : ¬ ((ls.length : Int) = 0) := by omega
            obtain ⟨pp, hpp⟩ : ∃ pp, ls[kk]? = some pp := ⟨_, List.getElem?_eq_getElem hkk⟩
            obtain ⟨b7, c7', hv7, hb7⟩ := H3.out.1.grid.block hl0
            injection hv7 with hA7 _ hc7
            subst hA7 hc7
            obtain ⟨q2, q3, hvp⟩ := H3.out.1.grid.get hpp
            have hfp := H3.out.1.fit pp (List.mem_of_getElem? hpp)
            obtain ⟨pv, pe⟩ := pp
            simp only at q2 hvp hfp
            obtain ⟨E, cE, rfl, -⟩ := hvp.form
            have hIp : ∀ e ∈ natE pe, InI e := fun e he => by
              simp only [natE, List.mem_map] at he
              obtain ⟨e', he', rfl⟩ := he
              have h1 := hfp.2 e' he'
              refine ⟨⟨?_, ?_⟩, ?_, ?_⟩ <;> simp <;> omega
            have hpl : (natE pe).length ≤ 65536 := by simp [natE]; omega
            have HVP := Lib.hid hvp
            have HIP := Lib.hid hIp
            have hb7' := hb7
            clear hvp hIp hfp hpp

            have HTC := Lib.hid (give_R (c' := cE) (natE pe) HIP.out H3.out.1.sp HVP.out hpl)
            go_wp2_with fail
            refine HTC.out.mono ?_
            rintro e4 W4 ⟨hT4, hR4, hz4, r4, hr4, h4⟩
            have hA4 := H3.out.2.keep hT4
            have p2' : W4.cell? ⟨gb, 2, none⟩ = some (.slice o.E o.es.length o.c) := hA4.blk.cell 2
            clear HTC p0 p1 p2
            rcases h4 with ⟨ns, hok4, rfl, hs4⟩ | ⟨hno4, rfl, hs4⟩
            · have hlo : (setA fl ns true).length = n := by rw [hok4.2.2.len]; exact hl3
              have hP4 := H3.out.1.call hT4 hR4 hz4 hr4 hs4 hlo
              have HDC := Lib.hid (dgive_any (w := W4) (c := cD) (c' := cE) (fl := fl) (natE pe) HIP.out (by omega) hP4.doc.reads (Nat.le_refl _) (own_keep HVP.out hT4 (by decide) (by decide) |> OwnE.ext) (Nat.le_refl _) hpl)
              rw [hl3] at HDC
              have H4 := Lib.hid (And.intro hP4 (And.intro hA4 hok4))
              clear hP4 hA4 hs4 hT4 hR4 hz4 hr4 hok4
              go_wp2_with fail
              refine HDC.out.mono ?_
              rintro e5 W5 ⟨hb5, ⟨ms, D5, c5, hok5, rfl, hd5⟩ | ⟨hno5, rfl⟩⟩
              case inr => exact absurd H4.out.2.2 (hno5 ns)
              obtain rfl := turn_agree hok5 H4.out.2.2
              rw [hl3]
              have HTL := Lib.hid (And.intro (H4.out.1.docs hb5 hd5) (And.intro (H4.out.2.1.keep (KeepT.below hb5)) (show ls.length ≤ k + 1 by have := HLK.out; omega)))
              clear hb5 hok5 hd5 HDC p2' H4
              have HNM := Lib.hid (num_any 0 W5)
              go_wp2_with fail
              refine HNM.out.mono ?_
              rintro e w' ⟨rfl, rfl⟩
              have z2 : (W5).cell? ⟨gb, 2, none⟩ = some (.slice o.E o.es.length o.c) := HTL.out.2.1.blk.cell 2
              have HSM := Lib.hid (lsame_any (w := W5) (c1 := cc) (c2 := o.c) o.es o.es HTL.out.2.1.own.ext (HX.out _ HTL.out.1.sp.bel) (by omega) (by omega) (Nat.le_refl _) (Nat.le_refl _))
              clear HNM
              go_wp2_with fail
              refine HSM.out.mono ?_
              rintro e w20 ⟨rfl, hb20⟩
              have hP20 := HTL.out.1.more hb20
              have HZ := Lib.hid (lstands_any (cD := c5) hP20.sp hP20.doc.reads)
              rw [hP20.lenS] at HZ
              have HP20 := Lib.hid hP20
              have hdt : decide (o.es = o.es) = true := decide_eq_true rfl
              clear HSM hb20 hP20 z2
              first | rw [hdt] | rw [show decide True = true from rfl]
              go_wp2_with fail
              refine HZ.out.mono ?_
              rintro e w21 ⟨rfl, hb21⟩
              have HP21 := Lib.hid (HP20.out.more hb21)
              have hlk21 := HTL.out.2.2
              have HLK21 := Lib.hid hlk21
              clear hb21 HZ HP20 HTL hlk21
              go_wp2
              go_roundw
              case rel => exact ⟨k + 1, r4, D5, c5, (setA fl ms true), ls, by omega, by go_num, rfl, HLK21.out, HP21.out⟩
              case measure => simp [intS]; omega
            · have hP4 := H3.out.1.call hT4 hR4 hz4 hr4 hs4 hl3
              have HDC := Lib.hid (dgive_any (w := W4) (c := cD) (c' := cE) (fl := fl) (natE pe) HIP.out (by omega) hP4.doc.reads (Nat.le_refl _) (own_keep HVP.out hT4 (by decide) (by decide) |> OwnE.ext) (Nat.le_refl _) hpl)
              rw [hl3] at HDC
              have H4 := Lib.hid (And.intro hP4 (And.intro hA4 hno4))
              clear hP4 hA4 hs4 hT4 hR4 hz4 hr4 hno4
              simp only [errV]
              go_wp2_with fail
              refine HDC.out.mono ?_
              rintro e5 W5 ⟨hb5, ⟨ms, D5, c5, hok5, rfl, hd5⟩ | ⟨hno5, rfl⟩⟩
              case inl => exact absurd hok5 (H4.out.2.2 ms)
              rw [hl3]
              have HTL := Lib.hid (And.intro (H4.out.1.more hb5) (And.intro (H4.out.2.1.keep (KeepT.below hb5)) (show ls.length ≤ k + 1 by have := HLK.out; omega)))
              clear hb5 hno5 HDC p2' H4
              have HNM := Lib.hid (num_any 1 W5)
              go_wp2_with fail
              refine HNM.out.mono ?_
              rintro e w' ⟨rfl, rfl⟩
              have z2 : (W5).cell? ⟨gb, 2, none⟩ = some (.slice o.E o.es.length o.c) := HTL.out.2.1.blk.cell 2
              have HSM := Lib.hid (lsame_any (w := W5) (c1 := cc) (c2 := o.c) o.es o.es HTL.out.2.1.own.ext (HX.out _ HTL.out.1.sp.bel) (by omega) (by omega) (Nat.le_refl _) (Nat.le_refl _))
              clear HNM
              go_wp2_with fail
              refine HSM.out.mono ?_
              rintro e w20 ⟨rfl, hb20⟩
              have hP20 := HTL.out.1.more hb20
              have HZ := Lib.hid (lstands_any (cD := cD) hP20.sp hP20.doc.reads)
              rw [hP20.lenS] at HZ
              have HP20 := Lib.hid hP20
              have hdt : decide (o.es = o.es) = true := decide_eq_true rfl
              clear HSM hb20 hP20 z2
              first | rw [hdt] | rw [show decide True = true from rfl]
              go_wp2_with fail
              refine HZ.out.mono ?_
              rintro e w21 ⟨rfl, hb21⟩
              have HP21 := Lib.hid (HP20.out.more hb21)
              have hlk21 := HTL.out.2.2
              have HLK21 := Lib.hid hlk21
              clear hb21 HZ HP20 HTL hlk21
              go_wp2
              go_roundw
              case rel => exact ⟨k + 1, r4, D, cD, fl, ls, by omega, by go_num, rfl, HLK21.out, HP21.out⟩
              case measure => simp [intS]; omega
        · have hq2 : (o.k == 2) = false := by simpa using hk2
          by_cases hk3 : o.k = 3
          · have hq3 : (o.k == 3) = true := by simp [hk3]
            have HK3 := Lib.hid hk3
            have HK2 := Lib.hid hk2
            have HK1 := Lib.hid hk1
            clear hk1 hk2 hk3
            have HTC := Lib.hid (claim_R (c' := cc) o.es HI.out H3.out.1.sp H3.out.2.own (by omega))
            go_wp2_with fail
            refine HTC.out.mono ?_
            rintro e4 W4 ⟨hT4, hR4, hz4, r4, hr4, h4⟩
            have hA4 := H3.out.2.keep hT4
            have p2' : W4.cell? ⟨gb, 2, none⟩ = some (.slice o.E o.es.length o.c) := hA4.blk.cell 2
            clear HTC p0 p1 p2
            rcases h4 with ⟨ns, hok4, rfl, hs4⟩ | ⟨hno4, rfl, hs4⟩
            · have hlo : (setA fl ns false).length = n := by rw [hok4.2.2.len]; exact hl3
              have hP4 := H3.out.1.call hT4 hR4 hz4 hr4 hs4 hlo
              have HDC := Lib.hid (dclaim_any (w := W4) (c := cD) (c' := o.c) (fl := fl) o.es HI.out (by omega) hP4.doc.reads (Nat.le_refl _) (HX.out _ hP4.sp.bel) (Nat.le_refl _) (by omega))
              rw [hl3] at HDC
              have H4 := Lib.hid (And.intro hP4 (And.intro hA4 hok4))
              clear hP4 hA4 hs4 hT4 hR4 hz4 hr4 hok4
              go_wp2_with fail
              refine HDC.out.mono ?_
              rintro e5 W5 ⟨hb5, ⟨ms, D5, c5, hok5, rfl, hd5⟩ | ⟨hno5, rfl⟩⟩
              case inr => exact absurd H4.out.2.2 (hno5 ns)
              obtain rfl := turn_agree hok5 H4.out.2.2
              rw [hl3]
              have HTL := Lib.hid (And.intro (H4.out.1.docs hb5 hd5) (And.intro (H4.out.2.1.keep (KeepT.below hb5)) (show ls.length ≤ k + 1 by have := HLK.out; omega)))
              clear hb5 hok5 hd5 HDC p2' H4
              have HNM := Lib.hid (num_any 0 W5)
              go_wp2_with fail
              refine HNM.out.mono ?_
              rintro e w' ⟨rfl, rfl⟩
              have z2 : (W5).cell? ⟨gb, 2, none⟩ = some (.slice o.E o.es.length o.c) := HTL.out.2.1.blk.cell 2
              have HSM := Lib.hid (lsame_any (w := W5) (c1 := cc) (c2 := o.c) o.es o.es HTL.out.2.1.own.ext (HX.out _ HTL.out.1.sp.bel) (by omega) (by omega) (Nat.le_refl _) (Nat.le_refl _))
              clear HNM
              go_wp2_with fail
              refine HSM.out.mono ?_
              rintro e w20 ⟨rfl, hb20⟩
              have hP20 := HTL.out.1.more hb20
              have HZ := Lib.hid (lstands_any (cD := c5) hP20.sp hP20.doc.reads)
              rw [hP20.lenS] at HZ
              have HP20 := Lib.hid hP20
              have hdt : decide (o.es = o.es) = true := decide_eq_true rfl
              clear HSM hb20 hP20 z2
              first | rw [hdt] | rw [show decide True = true from rfl]
              go_wp2_with fail
              refine HZ.out.mono ?_
              rintro e w21 ⟨rfl, hb21⟩
              have HP21 := Lib.hid (HP20.out.more hb21)
              have hlk21 := HTL.out.2.2
              have HLK21 := Lib.hid hlk21
              clear hb21 HZ HP20 HTL hlk21
              go_wp2
              go_roundw
              case rel => exact ⟨k + 1, r4, D5, c5, (setA fl ms false), ls, by omega, by go_num, rfl, HLK21.out, HP21.out⟩
              case measure => simp [intS]; omega
            · have hP4 := H3.out.1.call hT4 hR4 hz4 hr4 hs4 hl3
              have HDC := Lib.hid (dclaim_any (w := W4) (c := cD) (c' := o.c) (fl := fl) o.es HI.out (by omega) hP4.doc.reads (Nat.le_refl _) (HX.out _ hP4.sp.bel) (Nat.le_refl _) (by omega))
              rw [hl3] at HDC
              have H4 := Lib.hid (And.intro hP4 (And.intro hA4 hno4))
              clear hP4 hA4 hs4 hT4 hR4 hz4 hr4 hno4
              simp only [errV]
              go_wp2_with fail
              refine HDC.out.mono ?_
              rintro e5 W5 ⟨hb5, ⟨ms, D5, c5, hok5, rfl, hd5⟩ | ⟨hno5, rfl⟩⟩
              case inl => exact absurd hok5 (H4.out.2.2 ms)
              rw [hl3]
              have HTL := Lib.hid (And.intro (H4.out.1.more hb5) (And.intro (H4.out.2.1.keep (KeepT.below hb5)) (show ls.length ≤ k + 1 by have := HLK.out; omega)))
              clear hb5 hno5 HDC p2' H4
              have HNM := Lib.hid (num_any 1 W5)
              go_wp2_with fail
              refine HNM.out.mono ?_
              rintro e w' ⟨rfl, rfl⟩
              have z2 : (W5).cell? ⟨gb, 2, none⟩ = some (.slice o.E o.es.length o.c) := HTL.out.2.1.blk.cell 2
              have HSM := Lib.hid (lsame_any (w := W5) (c1 := cc) (c2 := o.c) o.es o.es HTL.out.2.1.own.ext (HX.out _ HTL.out.1.sp.bel) (by omega) (by omega) (Nat.le_refl _) (Nat.le_refl _))
              clear HNM
              go_wp2_with fail
              refine HSM.out.mono ?_
              rintro e w20 ⟨rfl, hb20⟩
              have hP20 := HTL.out.1.more hb20
              have HZ := Lib.hid (lstands_any (cD := cD) hP20.sp hP20.doc.reads)
              rw [hP20.lenS] at HZ
              have HP20 := Lib.hid hP20
              have hdt : decide (o.es = o.es) = true := decide_eq_true rfl
              clear HSM hb20 hP20 z2
              first | rw [hdt] | rw [show decide True = true from rfl]
              go_wp2_with fail
              refine HZ.out.mono ?_
              rintro e w21 ⟨rfl, hb21⟩
              have HP21 := Lib.hid (HP20.out.more hb21)
              have hlk21 := HTL.out.2.2
              have HLK21 := Lib.hid hlk21
              clear hb21 HZ HP20 HTL hlk21
              go_wp2
              go_roundw
              case rel => exact ⟨k + 1, r4, D, cD, fl, ls, by omega, by go_num, rfl, HLK21.out, HP21.out⟩
              case measure => simp [intS]; omega
          · have hq3 : (o.k == 3) = false := by simpa using hk3
            have HK3 := Lib.hid hk3
            have HK2 := Lib.hid hk2
            have HK1 := Lib.hid hk1
            clear hk1 hk2 hk3
            have HTC := Lib.hid (give_R (c' := cc) o.es HI.out H3.out.1.sp H3.out.2.own (by omega))
            go_wp2_with fail
            refine HTC.out.mono ?_
            rintro e4 W4 ⟨hT4, hR4, hz4, r4, hr4, h4⟩
            have hA4 := H3.out.2.keep hT4
            have p2' : W4.cell? ⟨gb, 2, none⟩ = some (.slice o.E o.es.length o.c) := hA4.blk.cell 2
            clear HTC p0 p1 p2
            rcases h4 with ⟨ns, hok4, rfl, hs4⟩ | ⟨hno4, rfl, hs4⟩
            · have hlo : (setA fl ns true).length = n := by rw [hok4.2.2.len]; exact hl3
              have hP4 := H3.out.1.call hT4 hR4 hz4 hr4 hs4 hlo
              have HDC := Lib.hid (dgive_any (w := W4) (c := cD) (c' := o.c) (fl := fl) o.es HI.out (by omega) hP4.doc.reads (Nat.le_refl _) (HX.out _ hP4.sp.bel) (Nat.le_refl _) (by omega))
              rw [hl3] at HDC
              have H4 := Lib.hid (And.intro hP4 (And.intro hA4 hok4))
              clear hP4 hA4 hs4 hT4 hR4 hz4 hr4 hok4
              go_wp2_with fail
              refine HDC.out.mono ?_
              rintro e5 W5 ⟨hb5, ⟨ms, D5, c5, hok5, rfl, hd5⟩ | ⟨hno5, rfl⟩⟩
              case inr => exact absurd H4.out.2.2 (hno5 ns)
              obtain rfl := turn_agree hok5 H4.out.2.2
              rw [hl3]
              have HTL := Lib.hid (And.intro (H4.out.1.docs hb5 hd5) (And.intro (H4.out.2.1.keep (KeepT.below hb5)) (show ls.length ≤ k + 1 by have := HLK.out; omega)))
              clear hb5 hok5 hd5 HDC p2' H4
              have HNM := Lib.hid (num_any 0 W5)
              go_wp2_with fail
              refine HNM.out.mono ?_
              rintro e w' ⟨rfl, rfl⟩
              have z2 : (W5).cell? ⟨gb, 2, none⟩ = some (.slice o.E o.es.length o.c) := HTL.out.2.1.blk.cell 2
              have HSM := Lib.hid (lsame_any (w := W5) (c1 := cc) (c2 := o.c) o.es o.es HTL.out.2.1.own.ext (HX.out _ HTL.out.1.sp.bel) (by omega) (by omega) (Nat.le_refl _) (Nat.le_refl _))
              clear HNM
              go_wp2_with fail
              refine HSM.out.mono ?_
              rintro e w20 ⟨rfl, hb20⟩
              have hP20 := HTL.out.1.more hb20
              have HZ := Lib.hid (lstands_any (cD := c5) hP20.sp hP20.doc.reads)
              rw [hP20.lenS] at HZ
              have HP20 := Lib.hid hP20
              have hdt : decide (o.es = o.es) = true := decide_eq_true rfl
              clear HSM hb20 hP20 z2
              first | rw [hdt] | rw [show decide True = true from rfl]
              go_wp2_with fail
              refine HZ.out.mono ?_
              rintro e w21 ⟨rfl, hb21⟩
              have HP21 := Lib.hid (HP20.out.more hb21)
              have hlk21 := HTL.out.2.2
              have HLK21 := Lib.hid hlk21
              clear hb21 HZ HP20 HTL hlk21
              go_wp2
              go_roundw
              case rel => exact ⟨k + 1, r4, D5, c5, (setA fl ms true), ls, by omega, by go_num, rfl, HLK21.out, HP21.out⟩
              case measure => simp [intS]; omega
            · have hP4 := H3.out.1.call hT4 hR4 hz4 hr4 hs4 hl3
              have HDC := Lib.hid (dgive_any (w := W4) (c := cD) (c' := o.c) (fl := fl) o.es HI.out (by omega) hP4.doc.reads (Nat.le_refl _) (HX.out _ hP4.sp.bel) (Nat.le_refl _) (by omega))
              rw [hl3] at HDC
              have H4 := Lib.hid (And.intro hP4 (And.intro hA4 hno4))
              clear hP4 hA4 hs4 hT4 hR4 hz4 hr4 hno4
              simp only [errV]
              go_wp2_with fail
              refine HDC.out.mono ?_
              rintro e5 W5 ⟨hb5, ⟨ms, D5, c5, hok5, rfl, hd5⟩ | ⟨hno5, rfl⟩⟩
              case inl => exact absurd hok5 (H4.out.2.2 ms)
              rw [hl3]
              have HTL := Lib.hid (And.intro (H4.out.1.more hb5) (And.intro (H4.out.2.1.keep (KeepT.below hb5)) (show ls.length ≤ k + 1 by have := HLK.out; omega)))
              clear hb5 hno5 HDC p2' H4
              have HNM := Lib.hid (num_any 1 W5)
              go_wp2_with fail
              refine HNM.out.mono ?_
              rintro e w' ⟨rfl, rfl⟩
              have z2 : (W5).cell? ⟨gb, 2, none⟩ = some (.slice o.E o.es.length o.c) := HTL.out.2.1.blk.cell 2
              have HSM := Lib.hid (lsame_any (w := W5) (c1 := cc) (c2 := o.c) o.es o.es HTL.out.2.1.own.ext (HX.out _ HTL.out.1.sp.bel) (by omega) (by omega) (Nat.le_refl _) (Nat.le_refl _))
              clear HNM
              go_wp2_with fail
              refine HSM.out.mono ?_
              rintro e w20 ⟨rfl, hb20⟩
              have hP20 := HTL.out.1.more hb20
              have HZ := Lib.hid (lstands_any (cD := cD) hP20.sp hP20.doc.reads)
              rw [hP20.lenS] at HZ
              have HP20 := Lib.hid hP20
              have hdt : decide (o.es = o.es) = true := decide_eq_true rfl
              clear HSM hb20 hP20 z2
              first | rw [hdt] | rw [show decide True = true from rfl]
              go_wp2_with fail
              refine HZ.out.mono ?_
              rintro e w21 ⟨rfl, hb21⟩
              have HP21 := Lib.hid (HP20.out.more hb21)
              have hlk21 := HTL.out.2.2
              have HLK21 := Lib.hid hlk21
              clear hb21 HZ HP20 HTL hlk21
              go_wp2
              go_roundw
              case rel => exact ⟨k + 1, r4, D, cD, fl, ls, by omega, by go_num, rfl, HLK21.out, HP21.out⟩
              case measure => simp [intS]; omega
    · obtain rfl : k = os.length := by omega
      have HZ := Lib.hid (lstands_any (cD := cD) HP.out.sp HP.out.doc.reads)
      rw [HP.out.lenS] at HZ
      have hbw := HP.out.sp.bel
      have HBW := Lib.hid hbw
      clear hbw
      go_wp2_with fail
      refine HZ.out.mono ?_
      rintro e w8 ⟨rfl, hb8⟩
      have HB8 := Lib.hid (HBW.out.trans (hb8.mono HBW.out.size))
      clear hb8
      go_wp2
      go_ret
      exact ⟨rfl, HB8.out⟩
end Go.Proofs.Ytliockcbnmbhnaa
