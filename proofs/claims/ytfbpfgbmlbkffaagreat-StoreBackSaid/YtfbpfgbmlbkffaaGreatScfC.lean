/-
  An operation leaves the other objects as they were; a read changes nothing; two stores side by side. No condition.
-/
import Derived.Test.YtfbpfgbmlbkffaaGreatZi
import Derived.Test.YtfbpfgbmlbkffaaGreatSceC
namespace Go.Proofs.YtfbpfgbmlbkffaaGreat
open Go.RowKit Go.BigFrame
set_option linter.unusedSimpArgs false
set_option linter.unusedVariables false
set_option maxRecDepth 100000
section
variable {V : Type}
theorem gget_of_mem {l : List (Key × V)} {q : Key} (h : ∃ v, (q, v) ∈ l) : gget l q ≠ none := fun hn => by
  obtain ⟨v, hv⟩ := h
  exact gget_none hn _ hv rfl
theorem gget_del_ne {l : List (Key × V)} (h : Keys1 l) {k q : Key} (hq : q ≠ k) : gget (gdel k l) q = gget l q := by
  cases hg : gget l q with
  | none =>
    cases h2 : gget (gdel k l) q with
    | none => rfl
    | some u => exact absurd rfl (gget_none hg _ (gdel_none k l _ (gget_some h2)).2)
  | some v =>
    have hm : (q, v) ∈ gdel k l := by
      unfold gdel
      exact List.mem_filter.2 ⟨gget_some hg, by simpa using hq⟩
    exact (h.del k).get hm
theorem gget_put_ne {l : List (Key × V)} (h : Keys1 l) {k q : Key} (v : V) (hq : q ≠ k) : gget (gput k v l) q = gget l q := by
  rw [← gget_del_ne h hq]
  cases hg : gget (gdel k l) q with
  | none =>
    cases h2 : gget (gput k v l) q with
    | none => rfl
    | some u =>
      rcases List.mem_cons.1 ((gput_perm k v l).mem_iff.1 (gget_some h2)) with e | e
      · injection e with e1 e2
        exact absurd e1 hq
      · exact absurd rfl (gget_none hg _ e)
  | some u =>
    have hm : (q, u) ∈ gput k v l := (gput_perm k v l).mem_iff.2 (List.mem_cons_of_mem _ (gget_some hg))
    exact (h.put k v).get hm
end
/-- the other objects -/
theorem do_other {M M' : Mod} {nm : List Nat} {xs : List StepV} {k : Nat} {told : List (List Nat)} (hk : Keys1 M.ob) (hd : DoR M nm xs M' k told) {q : Key} (hq : q ≠ keyB nm) : gget M'.ob q = gget M.ob q := by
  cases hd with
  | range => rfl
  | step => rfl
  | full => rfl
  | done _ _ _ _ _ =>
    unfold endM
    simp only
    split
    · exact gget_put_ne hk _ hq
    · exact gget_del_ne hk hq
theorem chosen_none {L out : List (Nat × Nat)} {n : Nat} (h : Chosen L n out) (hn : n = 0) : out = [] := by
  cases h with
  | none => rfl
  | fit h1 _ => omega
  | long _ h1 _ => omega
def sRead : SV := ⟨⟨13, 0, 65536, [], []⟩, none, 0⟩
theorem read_run {bl : List Bool} {d : List Nat} {a : AL} {e : List (Nat × Nat)} (hd : d.length ≤ 65536) : runW bl ⟨true, d, a, e, []⟩ ([sRead].map SV.x) = (⟨true, d, a, e, [d]⟩, 0) := by
  have hp : partB d 0 65536 = d := by
    unfold partB
    simp only [Nat.zero_min, List.drop_zero, Nat.sub_zero]
    rw [Nat.min_eq_right hd, List.take_length]
  have hs : stepW bl ⟨true, d, a, e, []⟩ sRead.x = (⟨true, d, a, e, [d]⟩, 0) := by
    unfold stepW
    have h1 : ¬ (1 ≤ sRead.x.kd ∧ sRead.x.kd ≤ 5) := by decide
    have h2 : ¬ (sRead.x.kd = 6) := by decide
    have h3 : ¬ (sRead.x.kd = 7) := by decide
    have h4 : 8 ≤ sRead.x.kd ∧ sRead.x.kd ≤ 14 := by decide
    rw [if_neg h1, if_neg h2, if_neg h3, if_pos h4, if_pos rfl]
    unfold insideW
    have h5 : ¬ (sRead.x.kd = 11) := by decide
    have h6 : ¬ (sRead.x.kd = 12) := by decide
    have h7 : ¬ (sRead.x.kd = 14) := by decide
    have h8 : ¬ (reachesB sRead.x.kd sRead.x.at_ sRead.x.ln sRead.x.dt.length = false) := by decide
    have h9 : ¬ (sRead.x.kd = 8) := by decide
    have h10 : ¬ (sRead.x.kd = 9) := by decide
    have h11 : ¬ (sRead.x.kd = 10) := by decide
    rw [if_neg h5, if_neg h6, if_neg h7, if_neg h8, if_neg h9, if_neg h10, if_neg h11]
    have e1 : sRead.x.at_.toNat = 0 := rfl
    have e2 : sRead.x.ln.toNat = 65536 := rfl
    rw [e1, e2]
    simp only [hp, List.nil_append]
  rw [List.map_cons, runW_cons, hs]
  rfl
/-- a read of an object -/
theorem read_same {n k : Nat} {M M' : Mod} {nm : List Nat} {told : List (List Nat)} {o : Ob} (hI : Inv n M) (hname : isNameB nm = true) (hg : gget M.ob (keyB nm) = some o) (hd : DoR M nm ([sRead].map SV.x) M' k told) :
    k = 0 ∧ told = [o.d] ∧ Inv n M' ∧ M'.bl = M.bl ∧ M'.fl = M.fl ∧ ∀ q, gget M'.ob q = gget M.ob q := by
  have hok : OkO n o := hI.obs _ (gget_some hg)
  have hst : startW M (keyB nm) = ⟨true, o.d, o.a, o.e, []⟩ := by unfold startW; rw [hg]
  have hrun := read_run (bl := M.bl) (d := o.d) (a := o.a) (e := o.e) hok.d
  rw [← hst] at hrun
  have he := hok.e
  cases hd with
  | range h =>
    rcases h with h | h | h
    · rw [hname] at h; cases h
    · simp at h
    · simp at h
  | step _ _ _ h => rw [hrun] at h; exact absurd rfl h
  | full _ _ _ h hf =>
    rw [hrun] at hf
    cases hf with
    | full h1 h2 => simp only at h1 h2; omega
  | @done es fl _ _ _ h hf =>
    rw [hrun] at hf ⊢
    have hes : es = o.e ∧ fl = M.fl := by
      cases hf with
      | give h1 => simp only at h1; omega
      | take h1 h2 h3 =>
        have := chosen_none h3 (by simp only; omega)
        subst this
        exact ⟨by simp, rfl⟩
    obtain ⟨rfl, rfl⟩ := hes
    have hobj : (⟨o.d, o.a, o.e⟩ : Ob) = o := rfl
    have hperm : (gput (keyB nm) o M.ob).Perm M.ob := (gput_perm _ _ _).trans (gdel_perm hI.keys hg).symm
    have hM : (endM M (keyB nm) ⟨true, o.d, o.a, o.e, [o.d]⟩ o.e M.fl) = ⟨M.bl, M.fl, gput (keyB nm) o M.ob⟩ := rfl
    rw [hM]
    refine ⟨rfl, rfl, ⟨hI.keys.put _ _, ?_, hI.len, hI.bl, ?_, fun p hp => hI.obs p (hperm.mem_iff.1 hp), fun p hp => hI.nms p (hperm.mem_iff.1 hp)⟩, rfl, rfl, fun q => ?_⟩
    · have := hperm.length_eq
      have := hI.few
      simp only
      omega
    · exact hI.good.perm (exts_perm hperm).symm
    · by_cases hq : q = keyB nm
      · subst hq
        rw [hg]
        exact gget_put _ _ _ hI.keys
      · exact gget_put_ne hI.keys _ hq
/-! ### two stores side by side -/
section
variable {w w' : World} {Z Z' : List Nat} {gs ms gp r c gs2 ms2 gp2 r2 c2 : Nat} {A A2 : Option Addr} {M M2 : Mod} {kv kv2 : KV}
theorem StoreAt.wide (h : StoreAt w Z gs ms gp r c A M kv) (hb : Below w.heap.size w w') (hZ : ∀ z ∈ Z', z ∈ Z ∨ w.heap.size ≤ z) : StoreAt w' Z' gs ms gp r c A M kv :=
  ⟨h.st.below hb, h.obs.imp fun p q hr => ⟨hr.1, by
    obtain ⟨go, mb, c1, ce, D, E, kv1, e, h1, h2⟩ := hr.2
    exact ⟨go, mb, c1, ce, D, E, kv1, e, fun hm => by
      rcases hZ mb hm with h3 | h3
      · exact h1 h3
      · have := h2.map.lt; omega, h2.below hb⟩⟩⟩
/-- the blocks that an operation changes are of these kinds -/
theorem StoreAt.kinds (h : StoreAt w Z gs ms gp r c A M kv) {k : Nat} (hk : k ∈ ms :: foot gp r M.fl) : k = ms ∨ (∃ cs, k = gp ∧ Blk w k 134 cs) ∨ (∃ cs, M.fl ≠ [] ∧ k = r ∧ Blk w k 4 cs) := by
  rcases List.mem_cons.1 hk with e | hk
  · exact .inl e
  · rcases foot_mem hk with rfl | ⟨hf, rfl⟩
    · exact .inr (.inl ⟨_, rfl, h.st.sp.blk⟩)
    · rcases h.st.sp.row with e | ⟨_, cs, hb, _⟩
      · exact absurd e hf
      · exact .inr (.inr ⟨cs, hf, rfl, hb⟩)
theorem StoreAt.odd (h : StoreAt w Z gs ms gp r c A M kv) {e : TypeId} (h1 : 134 ≠ e) (h2 : 4 ≠ e) : ∀ k ∈ ms :: foot gp r M.fl, Odd w e k := fun k hk => by
  rcases h.kinds hk with rfl | ⟨cs, _, hb⟩ | ⟨cs, _, _, hb⟩
  · exact Odd.map h.st.map
  · exact Odd.blk hb h1
  · exact Odd.blk hb h2
/-- a block of another type stays -/
theorem StoreAt.keep (h : StoreAt w Z gs ms gp r c A M kv) (ho : Only (ms :: foot gp r M.fl) w w') {t : TypeId} {k : Nat} {cs : Array Value} (hb : Blk w k t cs) (h1 : 134 ≠ t) (h2 : 4 ≠ t) : Blk w' k t cs :=
  hb.of (ho.block k hb.lt fun hm => h.odd h1 h2 k hm cs hb)
theorem StoreAt.row (h : StoreAt w Z gs ms gp r c A M kv) (ho : Only (ms :: foot gp r M.fl) w w') {base size n : Nat} {e : TypeId} {v : Value} {xs : List Value} (hr : w.ownsRow base e size v n xs) (h1 : 134 ≠ e) (h2 : 4 ≠ e) : w'.ownsRow base e size v n xs :=
  own_odd hr ho (h.odd h1 h2)
theorem StoreAt.told (h : StoreAt w Z gs ms gp r c A M kv) (ho : Only (ms :: foot gp r M.fl) w w') {B : Nat} {v : Value} {told : List (List Nat)} (hr : ToldR w B v told) : ToldR w' B v told := by
  obtain ⟨T, ct, tv, e, h1, h2⟩ := hr
  exact ⟨T, ct, tv, e, h.row ho h1 (by decide) (by decide), h2.imp fun a b hx => hx.only ho fun k hk => .inr (h.odd (by decide) (by decide) k hk)⟩
/-- a store beside the one that changes -/
theorem StoreAt.aside (h1 : StoreAt w Z gs ms gp r c A M kv) (h2 : StoreAt w Z gs2 ms2 gp2 r2 c2 A2 M2 kv2) (ho : Only (ms :: foot gp r M.fl) w w') (hm : ms2 ≠ ms) (hg : gp2 ≠ gp) (hr : M2.fl ≠ [] → M.fl ≠ [] → r2 ≠ r) (hZ : ms ∈ Z) : StoreAt w' Z gs2 ms2 gp2 r2 c2 A2 M2 kv2 := by
  have hmap : ∀ {P : Program} {kt : TypeId} {b : Nat} {l : KV}, SMap P kt w b l → b ≠ ms → b ∉ ms :: foot gp r M.fl := fun {P kt b l} hs hne hk => by
    rcases h1.kinds hk with rfl | ⟨cs, _, hb⟩ | ⟨cs, _, _, hb⟩
    · exact hne rfl
    · exact hs.ne_blk hb rfl
    · exact hs.ne_blk hb rfl
  refine ⟨⟨h1.keep ho h2.st.blk (by decide) (by decide), h2.st.len, h2.st.map.of (ho.block _ h2.st.map.lt (hmap h2.st.map hm)), ⟨?_, h2.st.sp.cap, h2.st.sp.lim, ?_⟩, h2.st.ne⟩, h2.obs.imp fun p q hx => ⟨hx.1, ?_⟩⟩
  · refine h2.st.sp.blk.of (ho.block _ h2.st.sp.blk.lt fun hk => ?_)
    rcases h1.kinds hk with e | ⟨cs, e, hb⟩ | ⟨cs, _, e, hb⟩
    · exact h1.st.map.ne_blk h2.st.sp.blk e.symm
    · exact hg e
    · exact h2.st.sp.blk.ne_ hb (by decide) rfl
  · rcases h2.st.sp.row with e | ⟨e, cs, hb, hc⟩
    · exact .inl e
    · by_cases hf2 : M2.fl = []
      · exact .inl hf2
      refine .inr ⟨e, cs, hb.of (ho.block _ hb.lt fun hk => ?_), hc⟩
      rcases h1.kinds hk with e | ⟨cs, e, hb'⟩ | ⟨cs, hf, e, hb'⟩
      · exact h1.st.map.ne_blk hb e.symm
      · exact hb.ne_ hb' (by decide) rfl
      · exact hr hf2 hf e
  · obtain ⟨go, mb, c1, ce, D, E, kv1, e, h3, h4⟩ := hx.2
    exact ⟨go, mb, c1, ce, D, E, kv1, e, h3, h4.only ho (fun k hk _ => ⟨h1.odd (by decide) (by decide) k hk, h1.odd (by decide) (by decide) k hk, h1.odd (by decide) (by decide) k hk⟩) (hmap h4.map fun e => h3 (e ▸ hZ))⟩
end
/-! ### rows of bytes, equal -/
set_option maxHeartbeats 2000000 in
theorem rows_same {w : World} {B B' c c' : Nat} {A A' : Option Addr} {tv tv' : List Value} {told : List (List Nat)} (hR : Reads w w.heap.size 1 A told.length tv) (hR' : Reads w w.heap.size 1 A' told.length tv') (h : Rel2 (RowR w B []) tv told) (h' : Rel2 (RowR w B' []) tv' told) (hm : told.length ≤ 1000) :
    Calls Tryz.prog 19 #[.slice A told.length c, .slice A' told.length c'] w fun e w' => e = .returned (.bool true) ∧ Below w.heap.size w w' := by
  have HR := Lib.hid (And.intro hR hR')
  have HY := Lib.hid (And.intro h h')
  clear hR hR' h h'
  go_enter Tryz.func19, Tryz.ntmps19
  go_wp2
  go_loopw [13] (fun i wr => ∃ k : Nat, k ≤ told.length ∧ i = .int .i64 k ∧ Below w.heap.size w wr) (fun i _ => told.length - (intS i).toNat)
  case atStart => exact ⟨0, Nat.zero_le _, rfl, Below.refl _ _⟩
  case round =>
    obtain ⟨k, hk, rfl, hb⟩ := hrel
    have hwk : IntKind.i64.wrap ((k : Int) + 1) = (k : Int) + 1 := by rw [IntKind.wrap_i64]; omega
    by_cases hlt : k < told.length
    · obtain ⟨ad, u, rfl, hab, hu, hc⟩ := (HR.out.1.since hb).at_ hlt
      obtain ⟨ad', u', rfl, hab', hu', hc'⟩ := (HR.out.2.since hb).at_ hlt
      obtain ⟨bs, hbs, A1, c1, rfl, hy, hsm, -⟩ := HY.out.1.at_ hu
      obtain ⟨bs', hbs', A2, c2, rfl, hy', hsm', -⟩ := HY.out.2.at_ hu'
      rw [hbs] at hbs'
      injection hbs' with hbs'
      subst hbs'
      have k1 := fun q => str_of (P := Tryz.prog) ((((Own.bytes hy hsm).since hb).drewN q)) c1 22 9 5 Tryz.underlying22 Tryz.underlying5 Tryz.underlying9
      have k2 := fun q => str_of (P := Tryz.prog) ((((Own.bytes hy' hsm').since hb).drewN q)) c2 22 9 5 Tryz.underlying22 Tryz.underlying5 Tryz.underlying9
      have HB := Lib.hid hb
      clear hb hy hy' hsm hsm' hu hu' hbs
      generalize strOf bs = s1 at *
      generalize bs.length = nb at *
      go_wp2_with fail
      go_quiet (fail)
      go_wp2
      exact ⟨⟨k + 1, by omega, by go_num, below_drewN HB.out _⟩, by simp only [intS]; omega⟩
    · obtain rfl : k = told.length := by omega
      go_wp2
      go_ret
      exact ⟨rfl, hb⟩
end Go.Proofs.YtfbpfgbmlbkffaaGreat
