/-
  A store of a law's own; the example that is looked at first. Conditions: none.
-/
import Derived.Test.YtfbpfgbmlbkffaaGreatZh

namespace Go.Proofs.YtfbpfgbmlbkffaaGreat
open Go.RowKit Go.BigFrame
set_option linter.unusedSimpArgs false
set_option linter.unusedVariables false
set_option maxRecDepth 100000
/-- a store that is new since w -/
structure Sto (n : Nat) (w W : World) (gs ms gp r c : Nat) (A : Option Addr) (M : Mod) (kv : KV) : Prop where
  at_ : StoreAt W [ms] gs ms gp r c A M kv
  bel : Below w.heap.size w W
  gsN : w.heap.size ≤ gs
  msN : w.heap.size ≤ ms
  gpN : w.heap.size ≤ gp
  rN : M.fl ≠ [] → w.heap.size ≤ r
  inv : Inv n M
def M0 (n : Nat) : Mod := ⟨flags8, List.replicate n true, []⟩
theorem inv0 {n : Nat} (h : n ≤ 65536) : Inv 0 (M0 n) where
  keys := List.nodup_nil
  few := Nat.le_refl _
  len := by simpa [M0] using h
  bl := rfl
  good := ⟨fun e he => (by cases he), List.Pairwise.nil, fun e he => (by cases he), fun j hj => ⟨fun hc => absurd hc Cov.nil, fun hf => by
    simp [M0] at hj
    simp [M0, hj] at hf⟩⟩
  obs := fun p hp => by cases hp
  nms := fun p hp => by cases hp
theorem Sto.new {n : Nat} {w W W' : World} {p : Value} (hn : n ≤ 65536) (hw : Below w.heap.size w W) (h : NewSt W (List.replicate n true) p W') : ∃ gs ms gp r c A, p = .pointer (some ⟨gs, 0, none⟩) ∧ Sto 0 w W' gs ms gp r c A (M0 n) [] := by
  obtain ⟨gs, ms, gp, r, c, A, rfl, h1, h2, h3, h4, h5, h6⟩ := h
  have hs := hw.size
  exact ⟨gs, ms, gp, r, c, A, rfl, ⟨⟨h1, .nil⟩, hw.trans (h6.mono hs), by omega, by omega, by omega, fun _ => by omega, inv0 hn⟩⟩
theorem Sto.below {n : Nat} {w W W' : World} {gs ms gp r c : Nat} {A : Option Addr} {M : Mod} {kv : KV} (h : Sto n w W gs ms gp r c A M kv) (hb : Below W.heap.size W W') : Sto n w W' gs ms gp r c A M kv :=
  ⟨h.at_.below hb, h.bel.trans (hb.mono h.bel.size), h.gsN, h.msN, h.gpN, h.rN, h.inv⟩
theorem foot_len {gp r : Nat} {fl fl' : List Bool} (h : fl'.length = fl.length) : foot gp r fl' = foot gp r fl := by
  unfold foot
  by_cases hf : fl = []
  · have : fl' = [] := List.eq_nil_of_length_eq_zero (by rw [h, hf]; rfl)
    rw [if_pos hf, if_pos this]
  · have : fl' ≠ [] := fun e => hf (List.eq_nil_of_length_eq_zero (by rw [← h, e]; rfl))
    rw [if_neg hf, if_neg this]
theorem Sto.footN {n : Nat} {w W : World} {gs ms gp r c : Nat} {A : Option Addr} {M : Mod} {kv : KV} (h : Sto n w W gs ms gp r c A M kv) : ∀ k ∈ ms :: foot gp r M.fl, w.heap.size ≤ k := fun k hk => by
  rcases List.mem_cons.1 hk with rfl | hk
  · exact h.msN
  · rcases foot_mem hk with rfl | ⟨hf, rfl⟩
    · exact h.gpN
    · exact h.rN hf
/-- an operation -/
theorem Sto.did {n : Nat} {w W W' : World} {gs ms gp r c : Nat} {A : Option Addr} {M : Mod} {kv : KV} (h : Sto n w W gs ms gp r c A M kv) {nm : List Nat} {xs : List StepV} {e : Ending} (hd : DoTo W [ms] gs ms gp r c A M nm xs e W') : ∃ M' k told v kv', DoR M nm xs M' k told ∧ e = .returned (.tuple #[v, errV k]) ∧ ToldR W' W.heap.size v told ∧ Sto (n + 16) w W' gs ms gp r c A M' kv' ∧ M'.fl.length = M.fl.length ∧ M'.bl = M.bl ∧ Only (ms :: foot gp r M.fl) W W' := by
  obtain ⟨hon, M', k, told, v, kv', hr, hst, rfl, ht⟩ := hd
  obtain ⟨i1, i2, i3⟩ := do_inv h.inv hr
  exact ⟨M', k, told, v, kv', hr, rfl, ht, ⟨hst, h.bel.trans (hon.below h.footN h.bel.size), h.gsN, h.msN, h.gpN, fun hf => h.rN (fun e => hf (List.eq_nil_of_length_eq_zero (by rw [i2, e]; rfl))), i1⟩, i2, i3, hon⟩
theorem Sto.do_ {n : Nat} {w W : World} {gs ms gp r c B cs : Nat} {A As : Option Addr} {M : Mod} {kv : KV} (h : Sto n w W gs ms gp r c A M kv) (hn : n ≤ 900000) (nm : List Nat) (hsm : Small nm) (hnm : nm.length ≤ 1000000)
    {l : List SV} (hl : StepsR W B As l) (hB : B ≤ W.heap.size) (hll : l.length ≤ cs) (hl6 : l.length ≤ 1000000) :
    Calls Tryz.prog 16 #[.pointer (some ⟨gs, 0, none⟩), .string (strOf nm), .slice As l.length cs] W (DoTo W [ms] gs ms gp r c A M nm (l.map SV.x)) :=
  sdo_any h.at_ (by simp) (fun z hz => by simp at hz; subst hz; exact h.at_.st.map.lt) h.inv hn nm hsm hnm hl hB hll hl6
def sMake : SV := ⟨⟨6, 0, 0, [], []⟩, none, 0⟩
def sWrite (g : Nat) : SV := ⟨⟨8, 0, 0, [], List.replicate 17 0⟩, some ⟨g, 0, none⟩, 17⟩
def sNeed : SV := ⟨⟨1, 0, 0, [], []⟩, none, 0⟩
theorem StoreAt.size_some {w : World} {Z : List Nat} {gs ms gp r c : Nat} {A : Option Addr} {M : Mod} {kv : KV} (h : StoreAt w Z gs ms gp r c A M kv) (bs : List Nat) (hl : bs.length ≤ 1000000) {o : Ob} (hg : gget M.ob (keyB bs) = some o) :
    Calls Tryz.prog 22 #[.pointer (some ⟨gs, 0, none⟩), .string (strOf bs)] w fun e w' => e = .returned (.int .i64 o.d.length) ∧ w = w' := by
  rcases h.obs.get ObjR.key (keyB bs) with ⟨_, h2⟩ | ⟨v, u, h1, h2, -, go, mb, c1, ce, D, E, kv1, e, -, hat⟩
  · rw [hg] at h2; cases h2
  · rw [hg] at h2
    injection h2 with h2
    subst h2
    exact size_there h.st bs hl (by rw [h1]; exact congrArg some e) (hat.blk.cell 0)
theorem StoreAt.size_none {w : World} {Z : List Nat} {gs ms gp r c : Nat} {A : Option Addr} {M : Mod} {kv : KV} (h : StoreAt w Z gs ms gp r c A M kv) (bs : List Nat) (hl : bs.length ≤ 1000000) (hg : gget M.ob (keyB bs) = none) :
    Calls Tryz.prog 22 #[.pointer (some ⟨gs, 0, none⟩), .string (strOf bs)] w fun e w' => e = .returned (.int .i64 (-1)) ∧ w = w' := by
  rcases h.obs.get ObjR.key (keyB bs) with ⟨h1, h2⟩ | ⟨v, u, h1, h2, _⟩
  · exact Go.Proofs.YtfbpfgbmlbkffaaGreat.size_none h.st bs hl h1
  · rw [hg] at h2; cases h2
theorem step_in {w : World} {s : SV} {B : Nat} (hd : Bytes w B s.D s.x.dt.length s.x.dt) (h1 : s.x.nm = []) (h2 : s.x.at_ = 0) (h3 : 0 ≤ s.x.ln ∧ s.x.ln ≤ 65536) (h4 : s.x.dt.length ≤ 1000000) : StepIn w s.x B s.D :=
  ⟨hd, (by rw [h1]; intro b hb; cases hb), by omega, by omega, by omega, by omega, (by rw [h1]; simp), h4⟩
def zer17 : Array Value := (u8s (List.replicate 17 0)).toArray
def cellsA (g : Nat) : Array Value := ([sMake, sWrite g].flatMap SV.cs).toArray
def cellsB : Array Value := ([sNeed].flatMap SV.cs).toArray
theorem two_steps (w : World) : StepsR ((w.alloc (.cells zer17 5)).alloc (.cells (cellsA w.heap.size) 59)) (w.heap.size + 2) (some ⟨w.heap.size + 1, 0, none⟩) [sMake, sWrite w.heap.size] := by
  refine ⟨?_, fun s hs => ?_⟩
  · have := Reads.newN (w.alloc (.cells zer17 5)) ([sMake, sWrite w.heap.size].flatMap SV.cs) 2 5 59 (0, 0) rfl
    rw [World.size_alloc] at this
    exact this
  · simp at hs
    rcases hs with rfl | rfl
    · exact step_in ⟨Reads.none_, fun b hb => by cases hb⟩ rfl rfl ⟨by decide, by decide⟩ (by decide)
    · refine step_in ?_ rfl rfl ⟨by simp [sWrite], by simp [sWrite]⟩ (by simp [sWrite])
      have := Bytes.new w (List.replicate 17 0) 5 (0, 0) (fun b hb => by rw [List.eq_of_mem_replicate hb]; omega)
      exact (this.alloc (by simp) _).more (by omega)
theorem one_need (w : World) : StepsR (w.alloc (.cells cellsB 59)) (w.heap.size + 1) (some ⟨w.heap.size, 0, none⟩) [sNeed] := by
  refine ⟨Reads.newN w ([sNeed].flatMap SV.cs) 1 5 59 (0, 0) rfl, fun s hs => ?_⟩
  simp at hs
  subst hs
  exact step_in ⟨Reads.none_, fun b hb => by cases hb⟩ rfl rfl ⟨by decide, by decide⟩ (by decide)
theorem alive_run (g : Nat) : runW (M0 10).bl (startW (M0 10) (keyB [97])) ([sMake, sWrite g].map SV.x) = (⟨true, List.replicate 17 0, [], [], []⟩, 0) := by kernel_rfl
theorem alive_one {g k : Nat} {M' : Mod} {told : List (List Nat)} (h : DoR (M0 10) [97] ([sMake, sWrite g].map SV.x) M' k told) : k = 0 ∧ ∃ es, M'.ob = [(keyB [97], ⟨List.replicate 17 0, [], es⟩)] := by
  have hr := alive_run g
  cases h with
  | range h =>
    rcases h with h | h | h
    · exact absurd h (by decide)
    · simp at h
    · simp at h
  | step _ _ _ h => rw [hr] at h; exact absurd rfl h
  | full _ _ _ h hf =>
    rw [hr] at hf
    cases hf with
    | full h1 h2 => exact absurd h2 (by decide)
  | done _ _ _ h hf =>
    rw [hr] at hf ⊢
    exact ⟨rfl, _, rfl⟩
theorem alive_two {k : Nat} {M M' : Mod} {es : List (Nat × Nat)} {told : List (List Nat)} (hob : M.ob = [(keyB [97], ⟨List.replicate 17 0, [], es⟩)]) (h : DoR M [98] ([sNeed].map SV.x) M' k told) : k = 6 ∧ M' = M := by
  have hs : startW M (keyB [98]) = ⟨false, [], [], [], []⟩ := by
    unfold startW
    have : gget M.ob (keyB [98]) = none := by rw [hob]; rfl
    rw [this]
  have hr : runW M.bl (startW M (keyB [98])) ([sNeed].map SV.x) = (⟨false, [], [], [], []⟩, 6) := by rw [hs]; rfl
  cases h with
  | range h =>
    rcases h with h | h | h
    · exact absurd h (by decide)
    · simp at h
    · simp at h
  | step _ _ _ h => exact ⟨by rw [hr], rfl⟩
  | full _ _ _ h hf => rw [hr] at h; cases h
  | done _ _ _ h hf => rw [hr] at h; cases h
set_option maxHeartbeats 8000000 in
theorem alive_any (w : World) : Calls Tryz.prog 5 #[] w fun e w' => e = .returned (.bool true) ∧ Below w.heap.size w w' := by
  have hms : ∀ w, (Instr.makeSlice 22 (.int .i64 17) (.int .i64 17)).run Tryz.prog w = .ok (.slice (some ⟨w.heap.size, 0, none⟩) 17 17) (w.alloc (.cells zer17 5)) := fun w => by kernel_rfl
  have hbs : ∀ g w, (Instr.buildSlice 47 2 #[(0, .agg #[.int .i64 6, .int .i64 0, .int .i64 0, .string { data := #[] }, .slice none 0 0]), (1, .agg #[.int .i64 8, .int .i64 0, .int .i64 0, .string { data := #[] }, .slice (some ⟨g, 0, none⟩) 17 17])]).run Tryz.prog w = .ok (.slice (some ⟨w.heap.size, 0, none⟩) 2 2) (w.alloc (.cells (cellsA g) 59)) := fun g w => by kernel_rfl
  go_enter Tryz.func5, Tryz.ntmps5
  go_wp2_with fail
  refine (stnew_any 10 (by omega) _).mono ?_
  rintro e w1 ⟨p, rfl, hN⟩
  obtain ⟨gs, ms, gp, r, c, A, rfl, hS⟩ := Sto.new (w := w) (by omega) (Below.refl _ _) hN
  have HS := Lib.hid hS
  clear hS hN
  have hA : strOf [97] = { data := #[97] } := by kernel_rfl
  have hB : strOf [98] = { data := #[98] } := by kernel_rfl
  have hbw : ∀ a b, Below w1.heap.size w1 ((w1.alloc a).alloc b) := fun a b => ((Below.refl _ _).alloc (Nat.le_refl _) _).alloc (by simp) _
  have HD := Lib.hid ((HS.out.below (hbw _ _)).do_ (by omega) [97] (by intro b hb; simp at hb; omega) (by decide) (two_steps w1) (by simp) (cs := 2) (by simp) (by simp))
  rw [hA] at HD
  go_wp2_with fail
  refine HD.out.mono ?_
  rintro e w2 hd
  obtain ⟨M1, k1, told1, v1, kv1, hr1, rfl, ht1, hS1, hf1, hb1, hon1⟩ := (HS.out.below (hbw _ _)).did hd
  obtain ⟨rfl, es, hob⟩ := alive_one hr1
  have HS1 := Lib.hid hS1
  have HOB := Lib.hid hob
  have HF := Lib.hid (And.intro hf1 hb1)
  obtain ⟨T1, ct1, tv1, rfl, -⟩ := ht1
  have HD2 := Lib.hid ((HS1.out.below ((Below.refl _ _).alloc (Nat.le_refl _) _)).do_ (by omega) [98] (by intro b hb; simp at hb; omega) (by decide) (one_need w2) (by simp) (cs := 1) (by simp) (by simp))
  rw [hB] at HD2
  clear hd hr1 hS1 hob hf1 hb1 hon1 HD HS hms hbs
  simp only [errV]
  have hbs1 : ∀ w, (Instr.buildSlice 47 1 #[(0, .agg #[.int .i64 1, .int .i64 0, .int .i64 0, .string { data := #[] }, .slice none 0 0])]).run Tryz.prog w = .ok (.slice (some ⟨w.heap.size, 0, none⟩) 1 1) (w.alloc (.cells cellsB 59)) := fun w => by kernel_rfl
  go_wp2_with fail
  refine HD2.out.mono ?_
  rintro e w3 hd
  obtain ⟨M2, k2, told2, v2, kv2, hr2, rfl, ht2, hS2, hf2, hb2, hon2⟩ := (HS1.out.below ((Below.refl _ _).alloc (Nat.le_refl _) _)).did hd
  obtain ⟨rfl, rfl⟩ := alive_two HOB.out hr2
  have HS2 := Lib.hid hS2
  have hcnt : cnt M2.fl = 8 := by
    have h1 := good_cnt hS2.inv.good
    have h2 := hS2.inv.obs (keyB [97], ⟨List.replicate 17 0, [], es⟩) (by rw [HOB.out]; simp)
    have h3 := h2.e
    simp only at h3
    have h4 : exts M2.ob = es := by rw [HOB.out]; simp [exts]
    have h5 : needsB (List.replicate 17 0) = 2 := by decide
    have h6 : (M0 10).fl.length = 10 := by decide
    have h7 := HF.out.1
    rw [h4, h3, h5, h7, h6] at h1
    omega
  have HFR := Lib.hid (stfree_any hS2.at_.st)
  rw [hcnt] at HFR
  have HSA := Lib.hid (hS2.at_.size_some [97] (by decide) (o := ⟨List.replicate 17 0, [], es⟩) (by rw [HOB.out]; rfl))
  have HSB := Lib.hid (hS2.at_.size_none [98] (by decide) (by rw [HOB.out]; rfl))
  rw [hA] at HSA
  rw [hB] at HSB
  have HIS := Lib.hid (is_any 6 6 w3)
  obtain ⟨T2, ct2, tv2, rfl, -⟩ := ht2
  clear hd hr2 hS2 hf2 hb2 hon2 HD2 hcnt hbs1
  simp only [errV, List.length_replicate] at HIS HSA ⊢
  go_wp2_with fail
  refine HIS.out.mono ?_
  rintro e w' ⟨rfl, rfl⟩
  go_wp2_with fail
  refine HFR.out.mono ?_
  rintro e w' ⟨rfl, rfl⟩
  go_wp2_with fail
  refine HSA.out.mono ?_
  rintro e w' ⟨rfl, rfl⟩
  go_wp2_with fail
  refine HSB.out.mono ?_
  rintro e w' ⟨rfl, rfl⟩
  go_wp2
  go_ret
  exact ⟨rfl, HS2.out.bel⟩
end Go.Proofs.YtfbpfgbmlbkffaaGreat

/-
  Extents of an object; what blocks the objects have, counted. Conditions: the store lies where it is said to.
-/
namespace Go.Proofs.YtfbpfgbmlbkffaaGreat
open Go.RowKit Go.BigFrame
set_option linter.unusedSimpArgs false
set_option linter.unusedVariables false
set_option maxRecDepth 100000
theorem modq (x : Int) (q : Nat) (hq : 0 < q) (hq2 : q ≤ 1000000) : ∃ m : Nat, m < q ∧ IntKind.i64.wrap ((IntKind.u64.wrap x).tmod (q : Int)) = (m : Int) := by
  obtain ⟨y, hy, h0⟩ : ∃ y, y = IntKind.u64.wrap x ∧ 0 ≤ y := ⟨_, rfl, by rw [IntKind.wrap_u64]; omega⟩
  rw [← hy]
  have h1 := Int.tmod_lt_of_pos y (b := (q : Int)) (by omega)
  have h2 := Int.tmod_nonneg (q : Int) h0
  refine ⟨(y.tmod (q : Int)).toNat, by omega, ?_⟩
  rw [IntKind.wrap_i64]
  omega
/-- a key's text -/
def keyL (k : Key) : List Nat := k.map UInt8.toNat
theorem keyL_key (k : Key) : keyB (keyL k) = k := by
  unfold keyB keyL
  rw [List.map_map]
  conv => rhs; rw [← List.map_id k]
  apply List.map_congr_left
  intro b _
  simp
theorem keyL_val (k : Key) : keyV k = .string (strOf (keyL k)) := by
  rw [← keyB_val, keyL_key]
theorem keyL_len (k : Key) : (keyL k).length = k.length := by simp [keyL]
theorem keyB_len (nm : List Nat) : (keyB nm).length = nm.length := by simp [keyB]
theorem StoreAt.extents {w : World} {Z : List Nat} {gs ms gp r c : Nat} {A : Option Addr} {M : Mod} {kv : KV} (h : StoreAt w Z gs ms gp r c A M kv) (bs : List Nat) (hl : bs.length ≤ 1000000) {o : Ob} (hg : gget M.ob (keyB bs) = some o) (he : o.e.length ≤ 1000000) :
    Calls Tryz.prog 36 #[.pointer (some ⟨gs, 0, none⟩), .string (strOf bs)] w fun e w' => ∃ A2 c2, e = .returned (.slice A2 o.e.length c2) ∧ OwnE w' w.heap.size (.slice A2 o.e.length c2) (natE o.e) ∧ Below w.heap.size w w' := by
  rcases h.obs.get ObjR.key (keyB bs) with ⟨_, h2⟩ | ⟨v, u, h1, h2, -, go, mb, c1, ce, D, E, kv1, e, -, hat⟩
  · rw [hg] at h2; cases h2
  rw [hg] at h2
  injection h2 with h2
  subst h2
  have hv : aget kv (keyB bs) = some (.pointer (some ⟨go, 0, none⟩)) := by rw [h1]; exact congrArg some e
  have HO := Lib.hid (object_any h.st bs hl)
  rw [hv, Option.getD_some] at HO
  have q2 : w.cell? ⟨go, 2, none⟩ = some (.slice E o.e.length ce) := hat.blk.cell 2
  have hcl := eclone_any (w := w) (c := ce) (es := natE o.e) (by rw [natE_len]; exact he) (OwnE.ext (by rw [natE_len]; exact hat.ext)) (Nat.le_refl _)
  rw [natE_len] at hcl
  have HC := Lib.hid hcl
  clear h h1 hg e hat hcl hv
  go_enter Tryz.func36, Tryz.ntmps36
  go_wp2_with fail
  refine HO.out.mono ?_
  rintro e w' ⟨rfl, rfl⟩
  go_wp2_with fail
  refine HC.out.mono ?_
  rintro e w' ⟨A2, c2, rfl, h1, h2⟩
  go_wp2
  go_ret
  exact ⟨A2, c2, rfl, h1, h2⟩
/-- whose extents, by name -/
def extOf (M : Mod) (k : Key) : List (Nat × Nat) := match gget M.ob k with | some o => o.e | none => []
theorem flat_keys : ∀ (M : Mod) (l : List (Key × Ob)), (∀ p ∈ l, gget M.ob p.1 = some p.2) → (l.map (·.1)).flatMap (extOf M) = exts l
  | M, [], _ => rfl
  | M, p :: l, h => by
    have ih := flat_keys M l (fun q hq => h q (by simp [hq]))
    have hp := h p (by simp)
    simp only [List.map_cons, List.flatMap_cons, exts] at ih ⊢
    rw [ih]
    congr 1
    unfold extOf
    rw [hp]
theorem names_good {n : Nat} {M : Mod} (h : Inv n M) {ns : List Key} (hp : ns.Perm (M.ob.map (·.1))) : Good M.fl (ns.flatMap (extOf M)) := by
  refine h.good.perm ?_
  rw [← flat_keys M M.ob (fun p hp => h.keys.get hp)]
  exact (hp.flatMap_right _).symm
theorem names_at {n : Nat} {M : Mod} (h : Inv n M) {ns : List Key} (hp : ns.Perm (M.ob.map (·.1))) {q : Nat} {k : Key} (hk : ns[q]? = some k) : ∃ o, gget M.ob k = some o ∧ OkO n o ∧ extOf M k = o.e ∧ k.length ≤ 32 := by
  have hm : k ∈ M.ob.map (·.1) := hp.mem_iff.1 (List.mem_of_getElem? hk)
  obtain ⟨p, hp, rfl⟩ := List.mem_map.1 hm
  have hg := h.keys.get hp
  refine ⟨p.2, hg, h.obs p hp, by unfold extOf; rw [hg], ?_⟩
  obtain ⟨nm, e, hn⟩ := h.nms p hp
  rw [e, keyB_len]
  simp [isNameB] at hn
  omega
theorem flat_take {α β : Type} (f : α → List β) {l : List α} {q : Nat} {k : α} (hk : l[q]? = some k) : (l.take (q + 1)).flatMap f = (l.take q).flatMap f ++ f k ∧ ∃ post, l.flatMap f = (l.take q).flatMap f ++ f k ++ post := by
  constructor
  · rw [List.take_add_one, hk]
    simp
  · refine ⟨(l.drop (q + 1)).flatMap f, ?_⟩
    have hlt := (List.getElem?_eq_some_iff.1 hk).1
    conv => lhs; rw [← List.take_append_drop q l]
    rw [List.drop_eq_getElem_cons hlt]
    have : l[q] = k := (List.getElem?_eq_some_iff.1 hk).2
    rw [this]
    simp
/-- a block of the next extent is nobody's yet -/
theorem Good.next {fl : List Bool} {pre post : List (Nat × Nat)} {x y : Nat} (h : Good fl (pre ++ (x, y) :: post)) {j : Nat} (h1 : x ≤ j) (h2 : j < x + y) : ¬ Cov pre j ∧ x + y ≤ fl.length := by
  have hin := h.inn (x, y) (by simp)
  refine ⟨?_, hin⟩
  rintro ⟨e, he, h3, h4⟩
  obtain ⟨-, -, hd⟩ := List.pairwise_append.1 h.dis
  have := hd e he (x, y) (by simp)
  simp only [Dis] at this
  omega
/-- who owns which block so far -/
structure Own2 (W : World) (go m : Nat) (ow : List Bool) (P : Nat → Prop) : Prop where
  blk : Blk W go 4 (ow.map Value.bool).toArray
  len : ow.length = m
  own : ∀ j, j < m → (ow[j]? = some true ↔ P j)
theorem Own2.cong {W : World} {go m : Nat} {ow : List Bool} {P Q : Nat → Prop} (h : Own2 W go m ow P) (hq : ∀ j, P j ↔ Q j) : Own2 W go m ow Q := ⟨h.blk, h.len, fun j hj => (h.own j hj).trans (hq j)⟩
theorem Own2.below {W W' : World} {go m : Nat} {ow : List Bool} {P : Nat → Prop} (h : Own2 W go m ow P) (hb : Below W.heap.size W W') : Own2 W' go m ow P := ⟨h.blk.of (hb.block _ h.blk.lt), h.len, h.own⟩
theorem Own2.at_ {W : World} {go m : Nat} {ow : List Bool} {P : Nat → Prop} (h : Own2 W go m ow P) {v : Nat} (hv : v < m) (hp : ¬ P v) : W.cell? ⟨go, v, none⟩ = some (.bool false) := by
  have hl : v < ow.length := by rw [h.len]; exact hv
  rw [h.blk.cell]
  have : ow[v]? ≠ some true := fun e => hp ((h.own v hv).1 e)
  rw [List.getElem?_eq_getElem hl] at this
  simp [hl] at this ⊢
  exact this
theorem Own2.set {W : World} {go m : Nat} {ow : List Bool} {P : Nat → Prop} (h : Own2 W go m ow P) {v : Nat} (hv : v < m) : Own2 (W.setCell ⟨go, v, none⟩ (.bool true)) go m (ow.set v true) (fun j => P j ∨ j = v) := by
  refine ⟨?_, by rw [List.length_set]; exact h.len, fun j hj => ?_⟩
  · have := h.blk.set_ v (.bool true)
    rw [List.setIfInBounds_toArray, ← List.map_set] at this
    exact this
  · rw [List.getElem?_set]
    by_cases e : v = j
    · subst e
      rw [if_pos rfl, if_pos (by rw [h.len]; exact hv)]
      simp
    · rw [if_neg e, h.own j hj]
      exact ⟨fun hp => .inl hp, fun hp => hp.resolve_right (fun e' => e e'.symm)⟩
def flagsN (m : Nat) : Array Value := ((List.replicate m false).map Value.bool).toArray
theorem make_flags (m : Nat) (hm : m ≤ 65536) (w : World) : (Instr.makeSlice 30 (.int .i64 (m : Int)) (.int .i64 (m : Int))).run Tryz.prog w = .ok (.slice (some ⟨w.heap.size, 0, none⟩) m m) (w.alloc (.cells (flagsN m) 4)) := by
  unfold flagsN
  obtain ⟨i0, hi0, hz0, hz1, hz2⟩ := info_parts bool_info
  have := run_make (P := Tryz.prog) w 30 4 i0 (.bool false) Tryz.underlying30 hi0 hz0 .i64 .i64 m m (by omega) (by omega) (by rw [hz2]; omega) (by omega)
  rw [hz1] at this
  simp only [Int.toNat_natCast, Nat.mul_one] at this
  rw [this]
  have e : (Value.bool false).cells = (List.replicate 1 (Value.bool false)).toArray := rfl
  rw [e, made_sameB]
  simp
end Go.Proofs.YtfbpfgbmlbkffaaGreat
