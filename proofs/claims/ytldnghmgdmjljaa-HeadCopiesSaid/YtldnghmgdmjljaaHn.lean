/-
  Take of heads, where takeHead reads as it is said to. Conditions: the bytes are no more than a million; what is read is small.
-/
import Derived.Test.YtldnghmgdmjljaaHm
namespace Go.Proofs.Ytldnghmgdmjljaa
open Go.RowKit Go.BigFrame
set_option linter.unusedSimpArgs false
set_option linter.unusedVariables false
set_option maxRecDepth 100000
theorem results_cell_tmp9 {P : Program} {fn : Func} {p q : Tmp} {ty : TypeId} (h : fn.results = #[.cell p ty, .tmp q]) (tmps : Array Value) (w : World) (g : Nat) (t : TypeId) (cs : Array Value) (fr : Nat × Nat) (d : TypeDesc) (v : Value)
    (hp : tmps.getD p undef = .pointer (some ⟨g, 0, none⟩)) (hq : tmps.getD q undef = v) (hg : w.heap[g]? = some (.cells cs t fr))
    (hu : P.underlying ty = some d) (hd : (match d with | .struct _ | .array _ _ => true | _ => false) = true) (hi : (P.info? ty).map (·.size) = some cs.size) :
    (results fn tmps).run P w = .ok (.tuple #[.agg cs, v]) w := by
  have hp' : tmps[p]?.getD undef = .pointer (some ⟨g, 0, none⟩) := by simpa using hp
  have hq' : tmps[q]?.getD undef = v := by simpa using hq
  simp [results, h, hp', hq', asAddr, run_loadVar_row w g t ty cs fr d hg hu hd hi]
/-- a head of the call's own -/
structure HA.N (a : HA) (w : World) (base : Nat) (F : List Nat) : Prop where
  vw : a.vw.N w base F
  sn : ∀ x ∈ a.sn, x.N w base F
  own : w.ownsRow base 62 11 (.slice a.S a.sn.length a.cs') a.sn.length (a.sn.flatMap SA.cells)
  id : I64 a.id
  obj : I64 a.obj
  seq : I64 a.seq
  ow : I64 a.ow
  it : I64 a.it
  tg : I64 a.tg
theorem HA.N.R {a : HA} {w : World} {base : Nat} {F : List Nat} (h : a.N w base F) : a.R SA.cells w := by
  obtain ⟨-, c1, c2, -⟩ := own_shape h.own
  unfold maxLen at c2
  exact ⟨h.vw.R, Reads.of_own h.own, fun s hs => (h.sn s hs).R, h.id, h.obj, h.seq, h.ow, h.it, h.tg, by omega, c1⟩
theorem hdv_i64 (s : RD) : I64 s.hdv.id ∧ I64 s.hdv.obj ∧ I64 s.hdv.seq ∧ I64 s.hdv.ow ∧ I64 s.hdv.it ∧ I64 s.hdv.tg := ⟨num_range _, num_range _, num_range _, num_range _, num_range _, num_range _⟩
theorem HA.N.below {a : HA} {w w' : World} {base : Nat} {F : List Nat} (h : a.N w base F) (hb : Below w.heap.size w w') : a.N w' base F :=
  ⟨h.vw.below hb, fun x hx => (h.sn x hx).below hb, own_below h.own hb, h.id, h.obj, h.seq, h.ow, h.it, h.tg⟩
theorem HA.N.weaken {a : HA} {w : World} {base base' : Nat} {F : List Nat} (h : a.N w base F) (hb : base' ≤ base) : a.N w base' F :=
  ⟨h.vw.weaken hb, fun x hx => (h.sn x hx).weaken hb, row_weaken h.own hb, h.id, h.obj, h.seq, h.ow, h.it, h.tg⟩
theorem HA.N.alone {a : HA} {w : World} {base : Nat} {F : List Nat} (h : a.N w base F) : a.N w base [] :=
  ⟨⟨h.vw.own, fun _ _ h => (by cases h), h.vw.ok, h.vw.par, h.vw.size, h.vw.ps, h.vw.ov, h.vw.pl⟩, fun x hx => by
    have q := h.sn x hx
    exact ⟨⟨q.vw.own, fun _ _ h => (by cases h), q.vw.ok, q.vw.par, q.vw.size, q.vw.ps, q.vw.ov, q.vw.pl⟩, q.own, fun _ _ h => (by cases h), q.ok, q.name, q.num, q.nl⟩, h.own, h.id, h.obj, h.seq, h.ow, h.it, h.tg⟩
/-- a store to one head's block turns none of it -/
theorem HA.N.stay {a : HA} {w w' : World} {base g : Nat} {F : List Nat} {cs : Array Value} (h : a.N w base F) (hk : Blk w g 36 cs) (o : Only [g] w w') : a.N w' base F := by
  have st := stay_only hk (by decide) (by decide) o
  refine ⟨h.vw.stay st, fun x hx => (h.sn x hx).stay st, row_of h.own fun k hm => o.block k (row_under h.own k hm) (fun hx => ?_), h.id, h.obj, h.seq, h.ow, h.it, h.tg⟩
  simp at hx
  subst hx
  obtain ⟨cs', hb⟩ := own_ty h.own hm
  exact hb.ne_ hk (by decide) rfl
def TakeH (b : List Nat) : Prop := (⟨b, false⟩ : RD).hdv.B = true ∧ (⟨b, false⟩ : RD).hdv.put = b
def HTakeTo (w : World) (b : List Nat) (e : Ending) (w' : World) : Prop :=
  Below w.heap.size w w' ∧ ((TakeH b ∧ ∃ a : HA, e = .returned (.tuple #[.agg a.cs, .nilIface]) ∧ a.v = (⟨b, false⟩ : RD).hdv ∧ a.N w' w.heap.size []) ∨ (¬ TakeH b ∧ e = .returned (.tuple #[.agg #[.int .i64 0, .int .i64 0, .int .i64 0, .int .i64 0, .slice none 0 0, .bool false, .bool false, .slice none 0 0, .string ⟨#[]⟩, .int .i64 0, .int .i64 0, .int .i64 0, .int .i64 0, .int .i64 0], errV 2])))
theorem txt_lt {c : List Nat} (h : ∀ b ∈ c, b < 256) : ∀ b ∈ txt c, b < 256 := by
  intro b hb
  rcases List.mem_append.1 hb with hb | hb
  · exact numB_lt _ b hb
  · exact h b hb
theorem putVw_lt {m : MkV} {l : LkV} (h1 : Good m.row) (h2 : ∀ b ∈ l.par, b < 256) : ∀ b ∈ putVw m l, b < 256 := by
  intro b hb
  simp only [putVw, putMk, putLk, flagB, List.mem_append, List.mem_singleton] at hb
  rcases hb with (rfl | rfl | hb) | (hb | hb | hb)
  · split <;> omega
  · split <;> omega
  · exact txt_lt (putM_lt h1) b hb
  · exact txt_lt h2 b hb
  · exact numB_lt _ b hb
  · exact numB_lt _ b hb
theorem named_lt {c : List Nat} (h : namedB c = true) : ∀ b ∈ c, b < 256 := by
  intro b hb
  unfold namedB at h
  simp only [Bool.and_eq_true, List.all_eq_true] at h
  have := h.2 b hb
  rcases sign_cases b with ⟨-, q⟩ | ⟨q, -⟩
  · omega
  · rw [q] at this; cases this
theorem putSn_lt {s : SnV} (h : SnG s) (hp : ∀ b ∈ s.lk.par, b < 256) : ∀ b ∈ putSn s, b < 256 := by
  intro b hb
  simp only [putSn, flagB, List.mem_append, List.mem_singleton, List.mem_flatMap] at hb
  rcases hb with hb | hb | hb | hb | rfl | hb | ⟨c, hc, hb⟩
  · exact numB_lt _ b hb
  · exact txt_lt (named_lt h.name) b hb
  · exact numB_lt _ b hb
  · exact putVw_lt h.row hp b hb
  · split <;> omega
  · exact numB_lt _ b hb
  · exact txt_lt (named_lt (h.ch c hc)) b hb
theorem hput_lt {h : HdV} (hB : h.B = true) (hp : ∀ b ∈ h.lk.par, b < 256) (hs : ∀ s ∈ h.sn, ∀ b ∈ s.lk.par, b < 256) : ∀ b ∈ h.put, b < 256 := by
  have hg := HdV.B_good hB
  intro b hb
  simp only [HdV.put, List.mem_append, List.mem_flatMap] at hb
  rcases hb with hb | hb | hb | hb | hb | ⟨s, h1, h2⟩ | hb | hb | hb | hb
  · exact numB_lt _ b hb
  · exact numB_lt _ b hb
  · exact numB_lt _ b hb
  · exact numB_lt _ b hb
  · exact numB_lt _ b hb
  · exact putSn_lt (hg.sn s h1) (hs s h1) b h2
  · exact putVw_lt hg.row hp b hb
  · exact numB_lt _ b hb
  · exact numB_lt _ b hb
  · exact numB_lt _ b hb
set_option maxHeartbeats 16000000 in
theorem htake_any (A : Option Addr) (n c : Nat) (b : List Nat) (w : World) (hb : Bytes w w.heap.size A n b) (hn : n ≤ 1000000)
    (HT : ∀ (w1 : World) (base : Nat) (F : List Nat) (p : Option Addr), Rd w1 base F p ⟨b, false⟩ → base ≤ w1.heap.size → Calls Try.prog 46 #[.pointer p] w1 (THeadTo w1 base F p ⟨b, false⟩))
    (hsm : ∀ a : HA, a.v = (⟨b, false⟩ : RD).hdv → a.Sm) : Calls Try.prog 16 #[.slice A n c] w (HTakeTo w b) := by
  obtain ⟨w0, hw0⟩ : ∃ w0, w0 = w.alloc (.cells #[.int .i64 0, .int .i64 0, .int .i64 0, .int .i64 0, .slice none 0 0, .bool false, .bool false, .slice none 0 0, .string ⟨#[]⟩, .int .i64 0, .int .i64 0, .int .i64 0, .int .i64 0, .int .i64 0] 36) := ⟨_, rfl⟩
  have hb0 : Below w.heap.size w w0 := by rw [hw0]; exact below_alloc w _
  have k0 : Blk w0 w.heap.size 36 #[.int .i64 0, .int .i64 0, .int .i64 0, .int .i64 0, .slice none 0 0, .bool false, .bool false, .slice none 0 0, .string ⟨#[]⟩, .int .i64 0, .int .i64 0, .int .i64 0, .int .i64 0, .int .i64 0] := by rw [hw0]; exact Blk.new w _ _
  have HW := Lib.hid hw0
  have HK := Lib.hid k0
  have HB0 := Lib.hid hb0
  have HBY := Lib.hid hb
  have HSM := Lib.hid hsm
  have HTT := Lib.hid HT
  have HNR := Lib.hid (newr_any A n c b w0 w0.heap.size (by omega) ((hb.since hb0).more hb0.size))
  have hz := head_zero
  obtain ⟨s, hs⟩ : ∃ s : RD, s = ⟨b, false⟩ := ⟨_, rfl⟩
  have HS := Lib.hid hs
  have hl0 := hb0.size
  have hl1 := k0.lt
  clear hw0 k0 hb0 hb hsm HT hs
  go_enter Try.func16, Try.ntmps16
  go_upto_region 1 with (fail)
  rw [← HW.out]
  clear HW
  go_wp2_with fail
  refine HNR.out.mono ?_
  rintro e w1 ⟨g, F, rfl, hr, b1⟩
  have HR1 := Lib.hid (And.intro hr b1)
  have HTC := Lib.hid (HTT.out w1 w0.heap.size F (some ⟨g, 0, none⟩) hr b1.size)
  clear hr b1 HNR HTT
  go_wp2_with fail
  refine HTC.out.mono ?_
  rintro e w2 ⟨a, F2, rfl, hav, hvw, hsn, hown, hfar, hrd, o, f⟩
  have hB12 : Below w0.heap.size w1 w2 := o.below HR1.out.1.over HR1.out.2.size
  have hB02 : Below w0.heap.size w0 w2 := HR1.out.2.trans hB12
  have hN : a.N w2 w1.heap.size F2 := by
    have q := hdv_i64 (⟨b, false⟩ : RD)
    rw [← hav] at q
    exact ⟨hvw, hsn, hown, q.1, q.2.1, q.2.2.1, q.2.2.2.1, q.2.2.2.2.1, q.2.2.2.2.2⟩
  obtain ⟨w3, hw3⟩ : ∃ w3, w3 = w2.alloc (.cells a.cs 36) := ⟨_, rfl⟩
  obtain ⟨g4, hg4⟩ : ∃ g4, g4 = w2.heap.size := ⟨_, rfl⟩
  have hb3 : Below w2.heap.size w2 w3 := by rw [hw3]; exact below_alloc w2 _
  have hN3 := (hN.below hb3).alone
  have k4 : Blk w3 g4 36 a.cs := by rw [hw3, hg4]; exact Blk.new w2 _ _
  have HP := Lib.hid (hput_any (w := w3) a hN3.R (HSM.out a hav))
  have HA3 := Lib.hid (And.intro hav (And.intro hN3 k4))
  have HB3 : Hid (Below w0.heap.size w0 w3) := Lib.hid (hB02.trans (hb3.mono hB02.size))
  have HG4 : Hid (w0.heap.size ≤ g4 ∧ w1.heap.size ≤ w2.heap.size ∧ w0.heap.size ≤ w1.heap.size) := Lib.hid (by have := hB02.size; have := o.size; have := HR1.out.2.size; omega)
  have HW3 := Lib.hid (And.intro hw3 hg4)
  clear hav hvw hsn hown hfar hrd o f hB12 hB02 hN hb3 hN3 k4 hw3 hg4 HTC
  unfold HA.cs at *
  go_upto_region 2 with (fail)
  rw [← HW3.out.1, ← HW3.out.2]
  clear HW3
  have K4 := HA3.out.2.2
  go_wp2_with (have _h := K4; refine wpList_loadq rfl 36 (.tmp 4) rfl g4 [.int .i64 a.id, .int .i64 a.vw.size, .int .i64 a.obj, .int .i64 a.seq, .slice a.S a.sn.length a.cs', .bool a.vw.on, .bool a.vw.good, .slice a.vw.M a.vw.row.length a.vw.cm, .string (strOf a.vw.par), .int .i64 a.vw.ps, .int .i64 a.vw.ov, .int .i64 a.ow, .int .i64 a.it, .int .i64 a.tg] _ rfl K4 Try.underlying36 rfl (by kernel_rfl) ?_; clear _h K4)
  refine HP.out.mono ?_
  rintro e w5 ⟨b5, hcase⟩
  have HB5 : Hid (Below w0.heap.size w0 w5) := Lib.hid (HB3.out.trans (b5.mono HB3.out.size))
  have HA5 : Hid (a.v = (⟨b, false⟩ : RD).hdv ∧ a.N w5 w1.heap.size [] ∧ Blk w5 g4 36 #[.int .i64 a.id, .int .i64 a.vw.size, .int .i64 a.obj, .int .i64 a.seq, .slice a.S a.sn.length a.cs', .bool a.vw.on, .bool a.vw.good, .slice a.vw.M a.vw.row.length a.vw.cm, .string (strOf a.vw.par), .int .i64 a.vw.ps, .int .i64 a.vw.ov, .int .i64 a.ow, .int .i64 a.it, .int .i64 a.tg]) := Lib.hid ⟨HA3.out.1, HA3.out.2.1.below b5, HA3.out.2.2.of (b5.block _ HA3.out.2.2.lt)⟩
  have HK5 : Hid (Blk w5 w.heap.size 36 #[.int .i64 0, .int .i64 0, .int .i64 0, .int .i64 0, .slice none 0 0, .bool false, .bool false, .slice none 0 0, .string ⟨#[]⟩, .int .i64 0, .int .i64 0, .int .i64 0, .int .i64 0, .int .i64 0]) := Lib.hid (HK.out.of (HB5.out.block _ hl1))
  have HNE : Hid (w.heap.size ≠ g4) := Lib.hid (by have := HG4.out.1; omega)
  have HBT5 : Hid (Bytes w5 w5.heap.size A n b) := Lib.hid ((HBY.out.since (HB0.out.trans (HB5.out.mono HB0.out.size))).more (HB0.out.trans (HB5.out.mono HB0.out.size)).size)
  clear b5 HP HA3
  rcases hcase with ⟨hB, p, rfl, hp⟩ | ⟨hB, rfl⟩
  · obtain ⟨Ap, cp, rfl⟩ := own_form hp
    rw [HA5.out.1] at hB hp
    have hpb : ∀ x ∈ (⟨b, false⟩ : RD).hdv.put, x < 256 := by
      refine hput_lt hB ?_ ?_
      · have e : a.v.lk.par = (⟨b, false⟩ : RD).hdv.lk.par := by rw [HA5.out.1]
        rw [← e]; exact HA5.out.2.1.vw.par
      · intro s hs
        rw [← HA5.out.1] at hs
        obtain ⟨x, hx, rfl⟩ := List.mem_map.1 hs
        exact (HA5.out.2.1.sn x hx).vw.par
    have HEQ := Lib.hid (equal_any Ap A _ n cp c _ _ _ _ w5 (hp.bytes hpb) HBT5.out)
    have HBB := Lib.hid hB
    rw [HA5.out.1]
    clear hB hp hpb
    by_cases heq : (⟨b, false⟩ : RD).hdv.put = b
    · have he : ((⟨b, false⟩ : RD).hdv.put == b) = true := by simpa using heq
      rw [he] at HEQ
      have HTH : Hid (TakeH b) := Lib.hid ⟨HBB.out, heq⟩
      clear he heq
      have K4 := HA5.out.2.2
      have K2 := HK5.out
      go_wp2_with fail
      refine HEQ.out.mono ?_
      rintro e w6 ⟨rfl, rfl⟩
      go_wp2_with (first
        | (have _h := K4; refine wpList_loadq rfl 36 (.tmp 4) rfl g4 [.int .i64 a.id, .int .i64 a.vw.size, .int .i64 a.obj, .int .i64 a.seq, .slice a.S a.sn.length a.cs', .bool a.vw.on, .bool a.vw.good, .slice a.vw.M a.vw.row.length a.vw.cm, .string (strOf a.vw.par), .int .i64 a.vw.ps, .int .i64 a.vw.ov, .int .i64 a.ow, .int .i64 a.it, .int .i64 a.tg] _ rfl K4 Try.underlying36 rfl (by kernel_rfl) ?_; clear _h K4)
        | (have _h := K2; refine wpList_storeq rfl 36 (.tmp 2) (.tmp 25) rfl w.heap.size _ [.int .i64 a.id, .int .i64 a.vw.size, .int .i64 a.obj, .int .i64 a.seq, .slice a.S a.sn.length a.cs', .bool a.vw.on, .bool a.vw.good, .slice a.vw.M a.vw.row.length a.vw.cm, .string (strOf a.vw.par), .int .i64 a.vw.ps, .int .i64 a.vw.ov, .int .i64 a.ow, .int .i64 a.it, .int .i64 a.tg] rfl rfl K2 (by simp) (by kernel_rfl) (one14 _ _ _ _ _ _ _ _ _ _ _ _ _ _ _ _ _ _) ?_; clear _h K2; intro w9 K9 o9 s9))
      refine bodyPost_ret (results_cell_tmp9 rfl _ _ w.heap.size 36 _ (0, 0) _ _ rfl rfl K9 Try.underlying36 rfl (by kernel_rfl)) rfl ?_
      refine ⟨(HB0.out.trans (HB5.out.mono HB0.out.size)).trans (o9.below (fun x hx => by simp at hx; omega) ((HB0.out.trans (HB5.out.mono HB0.out.size)).size)), .inl ⟨HTH.out, a, rfl, HA5.out.1, ?_⟩⟩
      exact (HA5.out.2.1.stay HK5.out o9).weaken (by have := HG4.out; omega)
    · have he : ((⟨b, false⟩ : RD).hdv.put == b) = false := by simpa using heq
      rw [he] at HEQ
      have HTH : Hid (¬ TakeH b) := Lib.hid fun h => heq h.2
      clear he heq
      have K2 := HK5.out
      go_wp2_with fail
      refine HEQ.out.mono ?_
      rintro e w6 ⟨rfl, rfl⟩
      go_wp2_with (have _h := K2; refine wpList_storeq rfl 36 (.tmp 2) (.tmp 23) rfl w.heap.size _ [.int .i64 0, .int .i64 0, .int .i64 0, .int .i64 0, .slice none 0 0, .bool false, .bool false, .slice none 0 0, .string ⟨#[]⟩, .int .i64 0, .int .i64 0, .int .i64 0, .int .i64 0, .int .i64 0] rfl rfl K2 (by simp) (by kernel_rfl) (one14 _ _ _ _ _ _ _ _ _ _ _ _ _ _ _ _ _ _) ?_; clear _h K2; intro w9 K9 o9 s9)
      refine bodyPost_ret (results_cell_tmp9 rfl _ _ w.heap.size 36 _ (0, 0) _ _ rfl rfl K9 Try.underlying36 rfl (by kernel_rfl)) rfl ?_
      exact ⟨(HB0.out.trans (HB5.out.mono HB0.out.size)).trans (o9.below (fun x hx => by simp at hx; omega) ((HB0.out.trans (HB5.out.mono HB0.out.size)).size)), .inr ⟨HTH.out, rfl⟩⟩
  · rw [HA5.out.1] at hB
    have HTH : Hid (¬ TakeH b) := Lib.hid fun h => by have := h.1; rw [hB] at this; cases this
    have K2 := HK5.out
    simp only [errV]
    clear hB
    go_wp2_with (have _h := K2; refine wpList_storeq rfl 36 (.tmp 2) (.tmp 23) rfl w.heap.size _ [.int .i64 0, .int .i64 0, .int .i64 0, .int .i64 0, .slice none 0 0, .bool false, .bool false, .slice none 0 0, .string ⟨#[]⟩, .int .i64 0, .int .i64 0, .int .i64 0, .int .i64 0, .int .i64 0] rfl rfl K2 (by simp) (by kernel_rfl) (one14 _ _ _ _ _ _ _ _ _ _ _ _ _ _ _ _ _ _) ?_; clear _h K2; intro w9 K9 o9 s9)
    refine bodyPost_ret (results_cell_tmp9 rfl _ _ w.heap.size 36 _ (0, 0) _ _ rfl rfl K9 Try.underlying36 rfl (by kernel_rfl)) rfl ?_
    exact ⟨(HB0.out.trans (HB5.out.mono HB0.out.size)).trans (o9.below (fun x hx => by simp at hx; omega) ((HB0.out.trans (HB5.out.mono HB0.out.size)).size)), .inr ⟨HTH.out, rfl⟩⟩
end Go.Proofs.Ytldnghmgdmjljaa
