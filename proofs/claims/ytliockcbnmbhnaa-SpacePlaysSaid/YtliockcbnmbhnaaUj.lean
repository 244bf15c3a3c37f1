/-
  A script of acts on a space; calls that leave the document's row alone. Conditions: the script reads as it is said to.
-/
import Derived.Test.YtliockcbnmbhnaaUi
import Derived.Test.YtliockcbnmbhnaaSpaceCopiesWalk
namespace Go.Proofs.Ytliockcbnmbhnaa
open Go.RowKit Go.BigFrame
set_option linter.unusedSimpArgs false
set_option linter.unusedVariables false
/-- an act -/
structure SOp where
  k : Int
  n : Int
  E : Option Addr
  c : Nat
  es : List (Int × Int)
def SOp.cs (o : SOp) : List Value := [.int .i64 o.k, .int .i64 o.n, .slice o.E o.es.length o.c]
structure SOp.Ok (o : SOp) (W : World) : Prop where
  cap : o.es.length ≤ o.c
  row : ExtR W W.heap.size o.E o.es
  good : ∀ e ∈ o.es, InI e
/-- a script, read from memory -/
structure SopsR (W : World) (A : Option Addr) (os : List SOp) : Prop where
  at_ : ∀ (k : Nat) (o : SOp), os[k]? = some o → ∃ ad, A = some ad ∧ ad.block < W.heap.size ∧ W.cell? (ad.add (k * 3)) = some (.int .i64 o.k) ∧ W.cell? ((ad.add (k * 3)).add 1) = some (.int .i64 o.n) ∧ W.cell? ((ad.add (k * 3)).add 2) = some (.slice o.E o.es.length o.c)
  ok : ∀ o ∈ os, o.Ok W
theorem SopsR.below {W W' : World} {A : Option Addr} {os : List SOp} (h : SopsR W A os) (hb : Below W.heap.size W W') : SopsR W' A os := by
  refine ⟨fun k o hk => ?_, fun o ho => ⟨(h.ok o ho).cap, ((h.ok o ho).row.below hb).more hb.size, (h.ok o ho).good⟩⟩
  obtain ⟨ad, e, hl, c0, c1, c2⟩ := h.at_ k o hk
  refine ⟨ad, e, Nat.lt_of_lt_of_le hl hb.size, (hb.cell (by rw [block_of_add]; exact hl)).trans c0, (hb.cell (by rw [block_of_add, block_of_add]; exact hl)).trans c1, (hb.cell (by rw [block_of_add, block_of_add]; exact hl)).trans c2⟩
theorem run_loadVar_sop (w : World) (p : Addr) (o : SOp) (h0 : w.cell? p = some (.int .i64 o.k)) (h1 : w.cell? (p.add 1) = some (.int .i64 o.n)) (h2 : w.cell? (p.add 2) = some (.slice o.E o.es.length o.c)) : (loadVar 38 p).run Try.prog w = .ok (.agg #[.int .i64 o.k, .int .i64 o.n, .slice o.E o.es.length o.c]) w := by
  have hc : ∀ j v, (o.cs)[j]? = some v → w.cell? (p.add j) = some v := fun j v hj => by
    match j, hj with
    | 0, hj => simp [SOp.cs] at hj; subst hj; simpa [Addr.add] using h0
    | 1, hj => simp [SOp.cs] at hj; subst hj; exact h1
    | 2, hj => simp [SOp.cs] at hj; subst hj; exact h2
  have hl : (loadCells p 3).run Try.prog w = .ok (o.cs).toArray w := run_loadCells_list (P := Try.prog) w p o.cs hc
  have hagg : (isAgg 38).run Try.prog w = .ok true w := by
    unfold isAgg
    rw [Sem.run_bind, run_underlying Try.underlying38 w]
    rfl
  have hi : (Try.prog.info? 38).map (·.size) = some 3 := by kernel_rfl
  cases hq : Try.prog.info? 38 with
  | none => simp [hq] at hi
  | some i =>
    have hs : i.size = 3 := by simpa [hq] using hi
    simp [loadVar, Sem.run_bind, hagg, sizeOf, typeInfo, hq, hs, hl]
    rfl
theorem wpList_load_sop {ops : Array Oper} {rest : List Oper} {op : Oper} {a : Act} {w : World} {Q : Exit → Act → World → Prop} (hgd : op.guard = none) (x : Operand) (ho : op.op = .load 38 x)
    (p : Addr) (hx : a.eval x = .pointer (some p)) (o : SOp) (h0 : w.cell? p = some (.int .i64 o.k)) (h1 : w.cell? (p.add 1) = some (.int .i64 o.n)) (h2 : w.cell? (p.add 2) = some (.slice o.E o.es.length o.c))
    (h : wpList Try.prog ops Q rest (a.put op.dst (.agg #[.int .i64 o.k, .int .i64 o.n, .slice o.E o.es.length o.c])) w) : wpList Try.prog ops Q (op :: rest) a w :=
  wpList_plain hgd fun _ hK => by
    unfold Oper.wp execOp
    simp only [ho, hx, Instr.loadAt, Instr.sureAddr, Sem.run_bind, Sem.run_pure, Result.andThen_ok, run_loadVar_sop w p o h0 h1 h2]
    exact hK _ _ h
set_option maxHeartbeats 2000000 in
theorem large_any {w : World} {A : Option Addr} {c : Nat} {os : List SOp} (hR : SopsR w A os) (hn : os.length ≤ 9223372036854775807) :
    Calls Try.prog 9 #[.slice A os.length c] w fun e w' => (e = .returned (.bool true) ∨ (e = .returned (.bool false) ∧ os.length ≤ 61 ∧ ∀ o ∈ os, o.es.length ≤ 20)) ∧ Below w.heap.size w w' := by
  have HR := Lib.hid hR
  clear hR
  go_enter Try.func9, Try.ntmps9
  go_wp2
  go_loopw [7] (fun i wr => ∃ k : Nat, k ≤ os.length ∧ k ≤ 61 ∧ i = .int .i64 k ∧ Below w.heap.size w wr ∧ ∀ (j : Nat) (o : SOp), j < k → os[j]? = some o → o.es.length ≤ 20) (fun i _ => os.length - (intS i).toNat)
  case atStart => exact ⟨0, by omega, by omega, rfl, Below.refl _ _, fun j o h => by omega⟩
  case round =>
    obtain ⟨k, hk, hk61, rfl, hb, hall⟩ := hrel
    have HB := Lib.hid (And.intro hb hall)
    have hwk : IntKind.i64.wrap ((k : Int) + 1) = (k : Int) + 1 := by rw [IntKind.wrap_i64]; omega
    by_cases hlt : k < os.length
    · obtain ⟨o, ho⟩ : ∃ o, os[k]? = some o := ⟨_, List.getElem?_eq_getElem hlt⟩
      obtain ⟨ad, rfl, hl, c0, c1, c2⟩ := (HR.out.below hb).at_ k o ho
      have HO := Lib.hid ho
      clear hb hall ho
      by_cases h60 : (60 : Int) < (k : Int)
      · have hd : decide ((60 : Int) < (k : Int)) = true := decide_eq_true h60
        go_wp2_with (have _h := c0; refine wpList_load_sop rfl (.tmp 10) rfl _ rfl o c0 c1 c2 ?_; clear _h c0 c1 c2)
        go_ret
        exact ⟨.inl rfl, HB.out.1.alloc HB.out.1.size _⟩
      · have hd : decide ((60 : Int) < (k : Int)) = false := decide_eq_false h60
        by_cases h20 : (20 : Int) < (o.es.length : Int)
        · have hd2 : decide ((20 : Int) < (o.es.length : Int)) = true := decide_eq_true h20
          go_wp2_with (have _h := c0; refine wpList_load_sop rfl (.tmp 10) rfl _ rfl o c0 c1 c2 ?_; clear _h c0 c1 c2)
          go_ret
          exact ⟨.inl rfl, HB.out.1.alloc HB.out.1.size _⟩
        · have hd2 : decide ((20 : Int) < (o.es.length : Int)) = false := decide_eq_false h20
          go_wp2_with (have _h := c0; refine wpList_load_sop rfl (.tmp 10) rfl _ rfl o c0 c1 c2 ?_; clear _h c0 c1 c2)
          go_roundw
          case rel =>
            refine ⟨k + 1, by omega, by omega, by go_num, HB.out.1.alloc HB.out.1.size _, fun j o' hj ho' => ?_⟩
            rcases Nat.lt_succ_iff_lt_or_eq.1 hj with h | rfl
            · exact HB.out.2 j o' h ho'
            · rw [HO.out] at ho'; injection ho' with ho'; subst ho'; omega
          case measure => simp [intS]; omega
    · obtain rfl : k = os.length := by omega
      clear hb hall
      go_wp2
      go_ret
      refine ⟨.inr ⟨rfl, hk61, fun o ho => ?_⟩, HB.out.1⟩
      obtain ⟨j, hj, rfl⟩ := List.mem_iff_getElem.1 ho
      exact HB.out.2 j _ hj (List.getElem?_eq_getElem hj)
/-- of the older blocks only the space's have turned -/
def KeepR (g r : Nat) (fl : List Bool) (W W' : World) : Prop := ∀ k, k < W.heap.size → k ≠ g → (fl ≠ [] → k ≠ r) → W'.heap[k]? = W.heap[k]?
theorem Sps.norm2 {w W : World} {g r c : Nat} {A : Option Addr} {fl : List Bool} (h : Sps w W g r c A fl) : ∃ r', Sps w W g r' c A fl ∧ (∀ W', Only [g, r'] W W' → KeepT W W' ∧ KeepR g r fl W W') ∧ (fl ≠ [] → r' = r) := by
  obtain ⟨r', h', hk, hr⟩ := h.norm
  by_cases hf : fl = []
  · refine ⟨W.heap.size, ⟨⟨h.at_.blk, h.at_.cap, h.at_.lim, .inl hf⟩, by have := h.at_.blk.lt; omega, h.bel, h.gl, h.bel.size⟩, fun W' ho => ⟨fun k cs t hb h1 h2 => ?_, fun k hk hg _ => ?_⟩, fun h => absurd hf h⟩
    · refine ho.block k hb.lt (fun hm => ?_)
      simp at hm
      rcases hm with e | e
      · subst e; exact hb.ne_ h.at_.blk h1 rfl
      · have := hb.lt; omega
    · exact ho.block k hk (by simp; omega)
  · have e := hr hf
    subst e
    exact ⟨r', h', fun W' ho => ⟨hk W' ho, fun k hk hg hr' => ho.block k hk (by simp; exact ⟨hg, hr' hf⟩)⟩, fun _ => rfl⟩
/-- Take, Give and Claim once more: the blocks beside the space's are as they were -/
def TakeR (w W : World) (g r c : Nat) (A : Option Addr) (fl : List Bool) (n : Int) (e : Ending) (w' : World) : Prop :=
  KeepT W w' ∧ KeepR g r fl W w' ∧ W.heap.size ≤ w'.heap.size ∧ ∃ r' : Nat, (fl ≠ [] → r' = r) ∧
  ((n < 0 ∧ e = .returned (.tuple #[.slice none 0 0, errV 1]) ∧ Sps w w' g r' c A fl) ∨
   ((cnt fl : Int) < n ∧ e = .returned (.tuple #[.slice none 0 0, errV 4]) ∧ Sps w w' g r' c A fl) ∨
   (∃ (k : Nat) (v : Value) (out : List (Nat × Nat)), n = (k : Int) ∧ k ≤ cnt fl ∧ e = .returned (.tuple #[v, .nilIface]) ∧ OwnE w' W.heap.size v (natE out) ∧ Chosen (hol 0 fl) k out ∧ Sps w w' g r' c A (setA fl out false)))
theorem take_R {w W : World} {g r c : Nat} {A : Option Addr} {fl : List Bool} (n : Int) (h : Sps w W g r c A fl) :
    Calls Try.prog 15 #[.pointer (some ⟨g, 0, none⟩), .int .i64 n] W (TakeR w W g r c A fl n) := by
  obtain ⟨r', h', hk, hr⟩ := h.norm2
  refine (stake_any n h'.at_ h'.ne).mono ?_
  rintro e w' ⟨ho, ⟨h1, rfl, hs⟩ | ⟨h1, rfl, hs⟩ | ⟨k, v, out, rfl, hk2, rfl, hv, hc, hs⟩⟩
  · exact ⟨(hk _ ho).1, (hk _ ho).2, ho.size, r', hr, .inl ⟨h1, rfl, h'.only ho hs⟩⟩
  · exact ⟨(hk _ ho).1, (hk _ ho).2, ho.size, r', hr, .inr (.inl ⟨h1, rfl, h'.only ho hs⟩)⟩
  · exact ⟨(hk _ ho).1, (hk _ ho).2, ho.size, r', hr, .inr (.inr ⟨k, v, out, rfl, hk2, rfl, hv, hc, h'.only ho hs⟩)⟩
def TurnR (w W : World) (g r c : Nat) (A : Option Addr) (fl : List Bool) (es : List (Int × Int)) (b : Bool) (e : Ending) (w' : World) : Prop :=
  KeepT W w' ∧ KeepR g r fl W w' ∧ W.heap.size ≤ w'.heap.size ∧ ∃ r' : Nat, (fl ≠ [] → r' = r) ∧
  ((∃ ns, TurnOk fl es b ns ∧ e = .returned .nilIface ∧ Sps w w' g r' c A (setA fl ns b)) ∨ ((∀ ns, ¬ TurnOk fl es b ns) ∧ e = .returned (errV 1) ∧ Sps w w' g r' c A fl))
theorem own_cap {W : World} {base n c : Nat} {E : Option Addr} {es : List (Int × Int)} (h : OwnE W base (.slice E n c) es) : n ≤ c := by
  rcases h.2 with ⟨e, h0⟩ | ⟨_, _, _, e, _, _, h1, _⟩
  · injection e with _ e1 e2; omega
  · injection e with _ e1 e2; omega
theorem give_R {w W : World} {g r c c' base : Nat} {A E : Option Addr} {fl : List Bool} (es : List (Int × Int)) (hI : ∀ e ∈ es, InI e) (h : Sps w W g r c A fl) (hE : OwnE W base (.slice E es.length c') es) (hle : es.length ≤ 65536) :
    Calls Try.prog 18 #[.pointer (some ⟨g, 0, none⟩), .slice E es.length c'] W (TurnR w W g r c A fl es true) := by
  obtain ⟨r', h', hk, hr⟩ := h.norm2
  refine (give_at es hI h'.at_ h'.ne E c' (own_cap hE) hE.ext (Nat.le_refl _) (own_far hE h') hle).mono ?_
  rintro e w' ⟨ho, ⟨ns, h1, rfl, hs⟩ | ⟨h1, rfl, hs⟩⟩
  · exact ⟨(hk _ ho).1, (hk _ ho).2, ho.size, r', hr, .inl ⟨ns, h1, rfl, h'.only ho hs⟩⟩
  · exact ⟨(hk _ ho).1, (hk _ ho).2, ho.size, r', hr, .inr ⟨h1, rfl, h'.only ho hs⟩⟩
theorem claim_R {w W : World} {g r c c' base : Nat} {A E : Option Addr} {fl : List Bool} (es : List (Int × Int)) (hI : ∀ e ∈ es, InI e) (h : Sps w W g r c A fl) (hE : OwnE W base (.slice E es.length c') es) (hle : es.length ≤ 65536) :
    Calls Try.prog 20 #[.pointer (some ⟨g, 0, none⟩), .slice E es.length c'] W (TurnR w W g r c A fl es false) := by
  obtain ⟨r', h', hk, hr⟩ := h.norm2
  refine (claim_at es hI h'.at_ h'.ne E c' (own_cap hE) hE.ext (Nat.le_refl _) (own_far hE h') hle).mono ?_
  rintro e w' ⟨ho, ⟨ns, h1, rfl, hs⟩ | ⟨h1, rfl, hs⟩⟩
  · exact ⟨(hk _ ho).1, (hk _ ho).2, ho.size, r', hr, .inl ⟨ns, h1, rfl, h'.only ho hs⟩⟩
  · exact ⟨(hk _ ho).1, (hk _ ho).2, ho.size, r', hr, .inr ⟨h1, rfl, h'.only ho hs⟩⟩
/-- the document's row, out of the space's way -/
structure DocF (W : World) (g r : Nat) (D : Option Addr) (fl : List Bool) : Prop where
  reads : Reads W W.heap.size 1 D fl.length (flagsS fl)
  far : fl ≠ [] → ∀ ad, D = some ad → ad.block ≠ g ∧ ad.block ≠ r
theorem DocF.keepR {W W' : World} {g r r' : Nat} {D : Option Addr} {fl : List Bool} (h : DocF W g r D fl) (hk : KeepR g r fl W W') (hs : W.heap.size ≤ W'.heap.size) (hr : fl ≠ [] → r' = r) : DocF W' g r' D fl := by
  refine ⟨⟨h.reads.1, fun hn => ?_⟩, fun hf ad hd => by rw [hr hf]; exact h.far hf ad hd⟩
  have hf : fl ≠ [] := fun e => by subst e; simp at hn
  obtain ⟨ad, e, hb, hc⟩ := h.reads.2 hn
  have hfar := h.far hf ad e
  refine ⟨ad, e, Nat.lt_of_lt_of_le hb hs, fun j u hu => ?_⟩
  have : W'.cell? (ad.add j) = W.cell? (ad.add j) := World.cell?_of_block (by rw [block_of_add]; exact hk ad.block hb hfar.1 (fun _ => hfar.2))
  rw [this]
  exact hc j u hu
theorem DocF.below {W W' : World} {g r : Nat} {D : Option Addr} {fl : List Bool} (h : DocF W g r D fl) (b : Below W.heap.size W W') : DocF W' g r D fl := ⟨(h.reads.below b).more b.size, h.far⟩
theorem DocF.next {W W' : World} {g r : Nat} {D D' : Option Addr} {fl fl' : List Bool} (h : DocF W g r D fl) (d : DRow W W' D D' fl') (hl : fl'.length = fl.length) (hg : g < W.heap.size) (hr : fl ≠ [] → r < W.heap.size) : DocF W' g r D' fl' := by
  refine ⟨d.reads, fun hf ad hd => ?_⟩
  have hf' : fl ≠ [] := fun e => hf (List.eq_nil_of_length_eq_zero (by rw [hl, e]; rfl))
  rcases d.new with e | e
  · subst e; exact h.far hf' ad hd
  · have h1 := e ad hd
    have h2 := hr hf'
    omega
end Go.Proofs.Ytliockcbnmbhnaa
