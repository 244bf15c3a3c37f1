/-
  The document's spaces: what is taken. Conditions: rows read as they are said to.
-/
import Derived.Test.YtliockcbnmbhnaaUc
import Derived.OwnWalk
namespace Go.Proofs.Ytliockcbnmbhnaa
open Go.RowKit Go.BigFrame
set_option linter.unusedSimpArgs false
set_option linter.unusedVariables false
/-- the best one of the first j holes -/
def BestS (L : List (Nat × Nat)) (m j : Nat) (e : Nat × Nat) : Prop :=
  e ∈ L.take j ∧ (m ≤ e.2 → ∀ q ∈ L.take j, m ≤ q.2 → q = e ∨ Shorter e q) ∧ (e.2 < m → ∀ q ∈ L.take j, q = e ∨ Longer e q)
def better (m : Nat) (e q : Nat × Nat) : Bool := (decide (m ≤ q.2) && (decide (e.2 < m) || decide (q.2 < e.2))) || (!decide (m ≤ q.2) && decide (e.2 < m) && decide (e.2 < q.2))
theorem etake_snoc {L : List (Nat × Nat)} {j : Nat} (h : j < L.length) : L.take (j + 1) = L.take j ++ [gx L j] := by rw [List.take_add_one, gx_some h]; rfl
theorem BestS.first {L : List (Nat × Nat)} (m : Nat) (h : 0 < L.length) : BestS L m 1 (gx L 0) := by
  have e : L.take 1 = [gx L 0] := by rw [etake_snoc (j := 0) h]; rfl
  refine ⟨by rw [e]; simp, fun _ q hq _ => ?_, fun _ q hq => ?_⟩ <;> · rw [e] at hq; simp at hq; exact .inl hq
theorem BestS.step {L : List (Nat × Nat)} {m j : Nat} {e : Nat × Nat} (h : BestS L m j e) (hj : j < L.length) (hr : L.Pairwise (fun p q => p.1 + p.2 < q.1)) : BestS L m (j + 1) (if better m e (gx L j) then gx L j else e) := by
  have hs := etake_snoc hj
  have hlt : ∀ p ∈ L.take j, p.1 < (gx L j).1 := fun p hp => by
    rw [← List.take_append_drop (j + 1) L, hs] at hr
    have := (List.pairwise_append.1 (List.pairwise_append.1 hr).1).2.2 p hp (gx L j) (by simp)
    omega
  generalize gx L j = q0 at *
  obtain ⟨h1, h2, h3⟩ := h
  have he := hlt e h1
  unfold BestS
  rw [hs]
  by_cases hb : better m e q0 = true
  · rw [if_pos hb]
    refine ⟨by simp, fun hm q hq hmq => ?_, fun hm q hq => ?_⟩
    · rcases List.mem_append.1 hq with hq | hq
      · simp only [better, Bool.or_eq_true, Bool.and_eq_true, decide_eq_true_eq, Bool.not_eq_true', decide_eq_false_iff_not] at hb
        by_cases hem : m ≤ e.2
        · rcases h2 hem q hq hmq with rfl | hs
          · right; unfold Shorter; omega
          · right; unfold Shorter at hs ⊢; omega
        · rcases h3 (by omega) q hq with rfl | hs
          · omega
          · unfold Longer at hs; omega
      · simp at hq; exact .inl hq
    · rcases List.mem_append.1 hq with hq | hq
      · simp only [better, Bool.or_eq_true, Bool.and_eq_true, decide_eq_true_eq, Bool.not_eq_true', decide_eq_false_iff_not] at hb
        rcases h3 (by omega) q hq with rfl | hs
        · right; unfold Longer; omega
        · right; unfold Longer at hs ⊢; omega
      · simp at hq; exact .inl hq
  · rw [if_neg hb]
    simp only [better, Bool.or_eq_true, Bool.and_eq_true, decide_eq_true_eq, Bool.not_eq_true', decide_eq_false_iff_not] at hb
    refine ⟨by simp [h1], fun hm q hq hmq => ?_, fun hm q hq => ?_⟩
    · rcases List.mem_append.1 hq with hq | hq
      · exact h2 hm q hq hmq
      · simp at hq; subst hq; right; unfold Shorter; omega
    · rcases List.mem_append.1 hq with hq | hq
      · exact h3 hm q hq
      · simp at hq; subst hq; right; unfold Longer; omega
theorem BestS.fit {L : List (Nat × Nat)} {m : Nat} {e : Nat × Nat} (h : BestS L m L.length e) (hm : m ≤ e.2) : Fit L m e := by
  unfold BestS at h; rw [List.take_length] at h
  exact ⟨h.1, hm, fun q hq hmq => h.2.1 hm q hq hmq⟩
theorem BestS.top {L : List (Nat × Nat)} {m : Nat} {e : Nat × Nat} (h : BestS L m L.length e) (hm : e.2 < m) : Top L e := by
  unfold BestS at h; rw [List.take_length] at h
  exact ⟨h.1, fun q hq => h.2.2 hm q hq⟩
theorem dcnt_take {fl : List Bool} {x y : Nat} (h : AllR fl x y true) : cnt (setR fl x y false) + y = cnt fl := by
  have := cnt_turn (b := false) h
  simp at this
  omega
/-- a row of flags that reads so; it is s's own, or new since w -/
structure DRow (w W : World) (A A' : Option Addr) (fl : List Bool) : Prop where
  reads : Reads W W.heap.size 1 A' fl.length (flagsS fl)
  new : A' = A ∨ ∀ ad, A' = some ad → w.heap.size ≤ ad.block
theorem OwnE.under2 {w w' : World} {base : Nat} {v : Value} {l : List (Int × Int)} (h : OwnE w base v l) (hb : Below w.heap.size w w') : OwnE w' base v l := h.below hb fun k hk => (World.ownsRow.lt h k (mem_rowOf.1 hk)).2
/-- in the midst of taking -/
structure DMid (w wr : World) (A A' : Option Addr) (k m : Nat) (fl fl' : List Bool) (lv : Value) (out : List (Nat × Nat)) : Prop where
  row : DRow w wr A A' fl'
  own : OwnE wr w.heap.size lv (natE out)
  bel : Below w.heap.size w wr
  ok : setA fl out false = fl'
  okA : OkA fl out false
  room : m ≤ cnt fl'
  few : out.length ≤ cnt fl - cnt fl'
  inv : ∀ rest, Chosen (hol 0 fl') m rest → Chosen (hol 0 fl) k (out ++ rest)
theorem DMid.step {w wr wz : World} {A A' A2 : Option Addr} {k m : Nat} {fl fl' : List Bool} {lv lv2 : Value} {out : List (Nat × Nat)} {e : Nat × Nat} (h : DMid w wr A A' k m fl fl' lv out) (hm : 0 < m) (hb : BestS (hol 0 fl') m (hol 0 fl').length e)
    (hr : DRow w wz A A2 (setR fl' e.1 (min e.2 m) false)) (ho : OwnE wz w.heap.size lv2 (natE (out ++ [(e.1, min e.2 m)]))) (hbz : Below w.heap.size w wz) : DMid w wz A A2 k (m - min e.2 m) fl (setR fl' e.1 (min e.2 m) false) lv2 (out ++ [(e.1, min e.2 m)]) := by
  have hin : e ∈ hol 0 fl' := by have := hb.1; rwa [List.take_length] at this
  have hm2 := hol_mem fl' 0 e.1 e.2 hin
  have hall : AllR fl' e.1 (min e.2 m) true := ⟨by have := hm2.2.2.1; omega, fun j h1 h2 => hm2.2.2.2 j h1 (by omega)⟩
  have hct := dcnt_take hall
  have hcl := cnt_le fl
  refine ⟨hr, ho, hbz, ?_, ?_, ?_, ?_, ?_⟩
  · rw [setA_app, h.ok]; rfl
  · rw [OkA.app, h.ok]; exact ⟨h.okA, hall, trivial⟩
  · have := h.room; omega
  · have h1 := h.few
    have h2 : (cnt (setA fl out false) : Int) = cnt fl + (if false = true then (lens out : Int) else -(lens out : Int)) := h.okA.cnt
    rw [h.ok] at h2
    simp at h2 ⊢
    have := hm2.2.1
    omega
  · intro rest hrest
    rw [List.append_assoc]
    refine h.inv _ ?_
    by_cases hle : m ≤ e.2
    · rw [Nat.min_eq_right hle, Nat.sub_self] at hrest
      rw [hrest.zero, Nat.min_eq_right hle]
      exact Chosen.fit hm (hb.fit hle)
    · have he2 : min e.2 m = e.2 := Nat.min_eq_left (by omega)
      rw [he2] at hrest ⊢
      have her := hol_erase fl' 0 e.1 e.2 hin
      rw [Nat.sub_zero] at her
      rw [her] at hrest
      exact Chosen.long (hb.top (by omega)) (by omega) hrest
/-- what a call of the document's Take comes to -/
def DTake (w : World) (A : Option Addr) (c : Nat) (fl : List Bool) (n : Int) (e : Ending) (w' : World) : Prop :=
  Below w.heap.size w w' ∧
  ((n < 0 ∧ e = .returned (.tuple #[.slice A fl.length c, .slice none 0 0, .int .i64 1])) ∨
   ((cnt fl : Int) < n ∧ e = .returned (.tuple #[.slice A fl.length c, .slice none 0 0, .int .i64 4])) ∨
   (∃ (k : Nat) (A' : Option Addr) (c' : Nat) (lv : Value) (out : List (Nat × Nat)), n = (k : Int) ∧ k ≤ cnt fl ∧ e = .returned (.tuple #[.slice A' fl.length c', lv, .int .i64 0]) ∧ Chosen (hol 0 fl) k out ∧ OwnE w' w.heap.size lv (natE out) ∧ DRow w w' A A' (setA fl out false) ∧ OkA fl out false))
set_option maxRecDepth 100000 in
set_option maxHeartbeats 8000000 in
theorem dtake_any {w : World} {B c : Nat} {A : Option Addr} {fl : List Bool} (n : Int) (hl : fl.length ≤ 65536) (hR : Reads w B 1 A fl.length (flagsS fl)) (hB : B ≤ w.heap.size) :
    Calls Try.prog 16 #[.slice A fl.length c, .int .i64 n] w (DTake w A c fl n) := by
  have hcn := cnt_le fl
  have HR := Lib.hid (hR.more hB)
  have HF := Lib.hid (dfree_any (c := c) hl hR)
  clear hR
  by_cases hn0 : n < 0
  · have hd : decide (n < 0) = true := decide_eq_true hn0
    go_enter Try.func16, Try.ntmps16
    go_wp2
    go_ret3
    exact ⟨Below.refl _ _, .inl ⟨hn0, rfl⟩⟩
  · have hd : decide (n < 0) = false := decide_eq_false hn0
    by_cases hbig : (cnt fl : Int) < n
    · have hd2 : decide ((cnt fl : Int) < n) = true := decide_eq_true hbig
      go_enter Try.func16, Try.ntmps16
      go_wp2_with fail
      refine HF.out.mono ?_
      rintro e w' ⟨rfl, rfl⟩
      go_wp2
      go_ret3
      exact ⟨Below.refl _ _, .inr (.inl ⟨hbig, rfl⟩)⟩
    · have hd2 : decide ((cnt fl : Int) < n) = false := decide_eq_false hbig
      obtain ⟨k, rfl⟩ : ∃ k : Nat, n = k := ⟨n.toNat, by omega⟩
      have h0 : DMid w w A A k k fl fl (.slice none 0 0) [] := ⟨⟨HR.out, .inl rfl⟩, OwnE.nil w _, Below.refl _ _, rfl, trivial, by omega, by simp, fun rest h => h⟩
      have H0 := Lib.hid h0
      clear h0
      go_enter Try.func16, Try.ntmps16
      go_wp2_with fail
      refine HF.out.mono ?_
      rintro e w' ⟨rfl, rfl⟩
      have hd3 : decide (cnt fl < k) = false := decide_eq_false (by omega)
      go_wp2_with fail
      clear HF hd hd2 hd3
      go_loopw [0, 1, 7] (fun sv nv lv wr => ∃ (m : Nat) (A' : Option Addr) (c' : Nat) (fl' : List Bool) (out : List (Nat × Nat)), nv = .int .i64 m ∧ sv = .slice A' fl.length c' ∧ m ≤ k ∧ fl'.length = fl.length ∧ DMid w wr A A' k m fl fl' lv out) (fun _ nv _ _ => (intS nv).toNat)
      case atStart => exact ⟨k, A, c, fl, [], rfl, rfl, Nat.le_refl _, rfl, H0.out⟩
      case round =>
        obtain ⟨m, A', c', fl', out, rfl, rfl, hmk, hfl, hM⟩ := hrel
        obtain ⟨wo, hwo⟩ : ∃ wo, wo = wr := ⟨_, rfl⟩
        subst hwo
        obtain ⟨Al, cl, rfl, -⟩ := hM.own.form
        have hcn' := cnt_le fl'
        have hroom := hM.room
        rcases Nat.eq_zero_or_pos m with hm0 | hm0
        · subst hm0
          have HM := Lib.hid hM
          clear hM
          go_wp2
          go_ret3
          have hM := HM.out
          have hch := hM.inv [] (.none _)
          rw [List.append_nil] at hch
          refine ⟨hM.bel, .inr (.inr ⟨k, A', c', _, out, rfl, by omega, rfl, hch, hM.own, ?_, hM.okA⟩)⟩
          rw [hM.ok]
          exact hM.row
        · have hd : decide ((0 : Int) < (m : Int)) = true := decide_eq_true (by omega)
          have HM := Lib.hid hM
          have HH := Lib.hid (dholes_any (c := c') (by omega) hM.row.reads (Nat.le_refl _))
          have hpos : 0 < (hol 0 fl').length := lens_pos (by rw [hol_lens]; omega)
          have hfew : (hol 0 fl').length ≤ 65536 := by have := hol_few fl'; omega
          have hris := hol_rises fl' 0
          have hmx : ∀ e ∈ hol 0 fl', e.1 ≤ 65536 ∧ e.2 ≤ 65536 := fun e he => by have := (hol_mem fl' 0 e.1 e.2 he).2.2.1; omega
          have hbl := hM.bel.size
          have hol_ := hM.few
          rw [hfl] at HH
          clear hM
          generalize hLL : hol 0 fl' = L at *
          have HL := Lib.hid (And.intro hLL (And.intro hris hmx))
          clear hLL hris hmx
          go_wp2_with fail
          refine HH.out.mono ?_
          rintro e w2 ⟨v8, rfl, hv8, hb2⟩
          obtain ⟨r, c8, rfl, hr1, hc8, hE⟩ := erow_of_own hv8 (by intro e; rw [e] at hpos; simp at hpos)
          have hg0 := hE.get (gx_some hpos)
          have a0 : w2.cell? ⟨r, 0, none⟩ = some (.int .i64 ((gx L 0).1 : Int)) := by simpa using hg0.1
          have a1 : w2.cell? ((⟨r, 0, none⟩ : Addr).add 1) = some (.int .i64 ((gx L 0).2 : Int)) := by simpa [Addr.add] using hg0.2.1
          have hrl := hE.lt
          have hpos' : (0 : Int) < (L.length : Int) := by omega
          have K3 : Blk (w2.alloc (.cells #[.int .i64 ((gx L 0).1 : Int), .int .i64 ((gx L 0).2 : Int)] 45)) w2.heap.size 45 #[.int .i64 ((gx L 0).1 : Int), .int .i64 ((gx L 0).2 : Int)] := Blk.new _ _ _
          have E3 : ERow (w2.alloc (.cells #[.int .i64 ((gx L 0).1 : Int), .int .i64 ((gx L 0).2 : Int)] 45)) r L := hE.of (Below.heap_alloc _ _ _ hrl)
          have B3 : Below wo.heap.size wo (w2.alloc (.cells #[.int .i64 ((gx L 0).1 : Int), .int .i64 ((gx L 0).2 : Int)] 45)) := hb2.alloc hb2.size _
          have hz2 := hb2.size
          have HX := Lib.hid (And.intro K3 (And.intro E3 B3))
          clear K3 E3 B3 hE hb2 hv8 hg0 HH
          go_wp2_with (refine wpList_load_ext rfl (.tmp 25) rfl _ rfl (((gx L 0).1 : Int), ((gx L 0).2 : Int)) a0 a1 ?_)
          clear a0 a1
          have hz3 : (w2.alloc (.cells #[.int .i64 ((gx L 0).1 : Int), .int .i64 ((gx L 0).2 : Int)] 45)).heap.size = w2.heap.size + 1 := World.size_alloc _ _
          generalize w2.alloc (.cells #[.int .i64 ((gx L 0).1 : Int), .int .i64 ((gx L 0).2 : Int)] 45) = w3 at *
          generalize hgb : w2.heap.size = gb at *
          clear hgb
          go_loopw [10] (fun i wi => ∃ (j : Nat) (e : Nat × Nat), 1 ≤ j ∧ j ≤ L.length ∧ i = .int .i64 j ∧ BestS L m j e ∧ Blk wi gb 45 #[.int .i64 (e.1 : Int), .int .i64 (e.2 : Int)] ∧ Only [gb] w3 wi) (fun i _ => L.length - (intS i).toNat)
          case atStart => exact ⟨1, gx L 0, by omega, by omega, rfl, BestS.first m hpos, HX.out.1, Only.refl _ _⟩
          case round =>
            obtain ⟨j, e, hj1, hj2, rfl, hbest, hK, hO⟩ := hrel
            have hEr : ERow wr r L := HX.out.2.1.of (hO.block r (by omega) (by simp; omega))
            have hbo : Below wo.heap.size wo wr := (Only.of_below HX.out.2.2 []).trans hO (fun _ h => by simp at h; subst h; exact .inr (by omega)) |>.nil
            have hem : e ∈ L := List.mem_of_mem_take hbest.1
            have hm1 := HL.out.2.2 e hem
            have p0 : wr.cell? ⟨gb, 0, none⟩ = some (.int .i64 (e.1 : Int)) := hK.cell 0
            have p1 : wr.cell? ⟨gb, 1, none⟩ = some (.int .i64 (e.2 : Int)) := hK.cell 1
            have f0 : wr.frozen? ⟨gb, 0, none⟩ = false := hK.frozen 0
            have f1 : wr.frozen? ⟨gb, 1, none⟩ = false := hK.frozen 1
            obtain ⟨e1, e2⟩ := e
            simp only at hm1 p0 p1 hK
            by_cases hlt : j < L.length
            · have hq := hEr.get (gx_some hlt)
              have hqm := HL.out.2.2 (gx L j) (List.mem_of_getElem? (gx_some hlt))
              have hst := hbest.step hlt HL.out.2.1
              have b0 : wr.cell? ⟨r, j * 2, none⟩ = some (.int .i64 ((gx L j).1 : Int)) := hq.1
              have b1 : wr.cell? ⟨r, j * 2 + 1, none⟩ = some (.int .i64 ((gx L j).2 : Int)) := hq.2.1
              have b1' : wr.cell? ((⟨r, j * 2, none⟩ : Addr).add 1) = some (.int .i64 ((gx L j).2 : Int)) := hq.2.1
              have hwk : IntKind.i64.wrap ((j : Int) + 1) = (j : Int) + 1 := by rw [IntKind.wrap_i64]; omega
              have KN : ∀ nq : Nat, Blk (((wr.drewN nq).setCell ⟨gb, 0, none⟩ (.int .i64 ((gx L j).1 : Int))).setCell ⟨gb, 1, none⟩ (.int .i64 ((gx L j).2 : Int))) gb 45 #[.int .i64 ((gx L j).1 : Int), .int .i64 ((gx L j).2 : Int)] := fun nq => ((hK.drewN nq).set_ 0 (.int .i64 ((gx L j).1 : Int))).set_ 1 (.int .i64 ((gx L j).2 : Int))
              have HN := Lib.hid (And.intro hst (And.intro hK (And.intro hO KN)))
              clear hst hK hO KN hq hEr hbo hbest hem
              generalize hgx : gx L j = q at *
              obtain ⟨q1, q2⟩ := q
              simp only at *
              by_cases h1 : m ≤ q2
              · have hd1 : decide ((m : Int) ≤ (q2 : Int)) = true := decide_eq_true (by omega)
                by_cases h2 : e2 < m
                · have hd2 : decide ((e2 : Int) < (m : Int)) = true := decide_eq_true (by omega)
                  have hbt : better m (e1, e2) (q1, q2) = true := by simp [better, h1, h2]
                  go_wp2_with fail
                  go_quiet (fail)
                  go_wp2_with (refine wpList_load_ext rfl (.tmp 79) rfl _ rfl ((q1 : Int), (q2 : Int)) b0 b1' ?_)
                  go_roundw
                  case rel => exact ⟨j + 1, (q1, q2), by omega, by omega, by go_num, by have := HN.out.1; rwa [hbt] at this, HN.out.2.2.2 _, ((HN.out.2.2.1.drewN _).setCell (.inl (by simp)) _).setCell (.inl (by simp)) _⟩
                  case measure => simp [intS]; omega
                · have hd2 : decide ((e2 : Int) < (m : Int)) = false := decide_eq_false (by omega)
                  by_cases h3 : q2 < e2
                  · have hd3 : decide ((q2 : Int) < (e2 : Int)) = true := decide_eq_true (by omega)
                    have hbt : better m (e1, e2) (q1, q2) = true := by simp [better, h1, h3]
                    go_wp2_with fail
                    go_quiet (fail)
                    go_wp2_with (refine wpList_load_ext rfl (.tmp 79) rfl _ rfl ((q1 : Int), (q2 : Int)) b0 b1' ?_)
                    go_roundw
                    case rel => exact ⟨j + 1, (q1, q2), by omega, by omega, by go_num, by have := HN.out.1; rwa [hbt] at this, HN.out.2.2.2 _, ((HN.out.2.2.1.drewN _).setCell (.inl (by simp)) _).setCell (.inl (by simp)) _⟩
                    case measure => simp [intS]; omega
                  · have hd3 : decide ((q2 : Int) < (e2 : Int)) = false := decide_eq_false (by omega)
                    have hbt : better m (e1, e2) (q1, q2) = false := by simp [better]; omega
                    go_wp2_with fail
                    go_quiet (fail)
                    go_wp2
                    go_roundw
                    case rel => exact ⟨j + 1, (e1, e2), by omega, by omega, by go_num, by have := HN.out.1; rw [hbt] at this; exact this, HN.out.2.1, HN.out.2.2.1.drewN _⟩
                    case measure => simp [intS]; omega
              · have hd1 : decide ((m : Int) ≤ (q2 : Int)) = false := decide_eq_false (by omega)
                by_cases h2 : e2 < m
                · have hd2 : decide ((e2 : Int) < (m : Int)) = true := decide_eq_true (by omega)
                  by_cases h3 : e2 < q2
                  · have hd3 : decide ((e2 : Int) < (q2 : Int)) = true := decide_eq_true (by omega)
                    have hbt : better m (e1, e2) (q1, q2) = true := by simp [better]; omega
                    go_wp2_with fail
                    go_quiet (fail)
                    go_wp2_with (refine wpList_load_ext rfl (.tmp 79) rfl _ rfl ((q1 : Int), (q2 : Int)) b0 b1' ?_)
                    go_roundw
                    case rel => exact ⟨j + 1, (q1, q2), by omega, by omega, by go_num, by have := HN.out.1; rwa [hbt] at this, HN.out.2.2.2 _, ((HN.out.2.2.1.drewN _).setCell (.inl (by simp)) _).setCell (.inl (by simp)) _⟩
                    case measure => simp [intS]; omega
                  · have hd3 : decide ((e2 : Int) < (q2 : Int)) = false := decide_eq_false (by omega)
                    have hbt : better m (e1, e2) (q1, q2) = false := by simp [better]; omega
                    go_wp2_with fail
                    go_quiet (fail)
                    go_wp2
                    go_roundw
                    case rel => exact ⟨j + 1, (e1, e2), by omega, by omega, by go_num, by have := HN.out.1; rw [hbt] at this; exact this, HN.out.2.1, HN.out.2.2.1.drewN _⟩
                    case measure => simp [intS]; omega
                · have hd2 : decide ((e2 : Int) < (m : Int)) = false := decide_eq_false (by omega)
                  have hbt : better m (e1, e2) (q1, q2) = false := by simp [better]; omega
                  go_wp2_with fail
                  go_quiet (fail)
                  go_wp2
                  go_roundw
                  case rel => exact ⟨j + 1, (e1, e2), by omega, by omega, by go_num, by have := HN.out.1; rw [hbt] at this; exact this, HN.out.2.1, HN.out.2.2.1.drewN _⟩
                  case measure => simp [intS]; omega
            · obtain rfl : j = L.length := by omega
              have hx12 := hol_mem fl' 0 e1 e2 (by rw [HL.out.1]; exact hem)
              have hxy := hx12.2.2.1
              have hRr : Reads wr wo.heap.size 1 A' fl'.length (flagsS fl') := HM.out.row.reads.below hbo
              have hOl : OwnE wr w.heap.size (.slice Al (natE out).length cl) (natE out) := HM.out.own.under2 hbo
              have hzr := hO.size
              have HLEN : Hid ((natE out).length = out.length) := Lib.hid (by simp [natE])
              by_cases hlm : m < e2
              · have hd1 : decide ((m : Int) < (e2 : Int)) = true := decide_eq_true (by omega)
                have K4 : Blk (wr.setCell ⟨gb, 1, none⟩ (.int .i64 (m : Int))) gb 45 #[.int .i64 (e1 : Int), .int .i64 (m : Int)] := by simpa using hK.set_ 1 (.int .i64 (m : Int))
                have hmin : min e2 m = m := by omega
                have HZ4 : Hid ((wr.setCell ⟨gb, 1, none⟩ (.int .i64 (m : Int))).heap.size = wr.heap.size) := Lib.hid (by simp [World.setCell])
                have Z4 := HZ4.out
                have BO4 : Below wo.heap.size wo (wr.setCell ⟨gb, 1, none⟩ (.int .i64 (m : Int))) := hbo.setCell (p := ⟨gb, 1, none⟩) (by show wo.heap.size ≤ gb; omega) _
                have c0 : (wr.setCell ⟨gb, 1, none⟩ (.int .i64 (m : Int))).cell? ⟨gb, 0, none⟩ = some (.int .i64 (e1 : Int)) := K4.cell 0
                have c1 : (wr.setCell ⟨gb, 1, none⟩ (.int .i64 (m : Int))).cell? ((⟨gb, 0, none⟩ : Addr).add 1) = some (.int .i64 (m : Int)) := K4.cell 1
                have HW := Lib.hid (dwith_any (w := wr.setCell ⟨gb, 1, none⟩ (.int .i64 (m : Int))) (c := c') e1 m false (by omega) (by omega) (HM.out.row.reads.below BO4) (by omega))
                rw [hfl] at HW
                have HQ := Lib.hid (And.intro K4 (And.intro BO4 (And.intro hbest hOl)))
                clear K4 BO4 hbest hOl hK hO hEr hbo hRr Z4
                go_wp2_with (refine wpList_load_ext rfl (.tmp 9) rfl _ rfl ((e1 : Int), (m : Int)) c0 c1 ?_)
                clear c0 c1 p0 p1 f0 f1
                refine HW.out.mono ?_
                rintro e5 w5 ⟨v5, rfl, hv5, hb5⟩
                obtain ⟨A5, c5, rfl⟩ := hv5.form
                have hl5 : (setR fl' e1 m false).length = fl.length := by rw [setR_len (by omega)]; exact hfl
                rw [hl5]
                have K5 : Blk w5 gb 45 #[.int .i64 (e1 : Int), .int .i64 (m : Int)] := HQ.out.1.below hb5 (by first | omega | (rw [HZ4.out]; omega))
                have d0 : w5.cell? ⟨gb, 0, none⟩ = some (.int .i64 (e1 : Int)) := K5.cell 0
                have d1 : w5.cell? ((⟨gb, 0, none⟩ : Addr).add 1) = some (.int .i64 (m : Int)) := K5.cell 1
                have hz5 : wr.heap.size ≤ w5.heap.size := by have h1 := hb5.size; have h2 := HZ4.out; omega
                have BO5 : Below wo.heap.size wo w5 := HQ.out.2.1.trans (hb5.mono (by first | omega | (rw [HZ4.out]; omega)))
                have OW6 : OwnE (w5.alloc (.cells (ext1 ((e1 : Int), (m : Int))).toArray 45)) w.heap.size (.slice Al (natE out).length cl) (natE out) := (HM.out.own.under2 BO5).alloc _
                have X6 := ext_new w5 ((e1 : Int), (m : Int))
                have hbe := build_ext ((e1 : Int), (m : Int))
                have hal : ∀ k, (Value.slice Al (natE out).length cl).ownBlock = some k → w.heap.size ≤ k ∧ k < wo.heap.size := fun k hk => World.ownsRow.lt HM.out.own k hk
                have K6 := K5.alloc (.cells (ext1 ((e1 : Int), (m : Int))).toArray 45)
                have HZ := Lib.hid (And.intro K6 (And.intro BO5 (And.intro OW6 (And.intro X6 (And.intro hal hv5)))))
                have hwm : IntKind.i64.wrap ((m : Int) - (m : Int)) = ((m - m : Nat) : Int) := by rw [IntKind.wrap_i64]; omega
                clear K5 K6 BO5 OW6 X6 hal hv5 hb5 HW
                go_wp2_with (first
                  | (refine wpList_load_ext rfl (.tmp 9) rfl _ rfl ((e1 : Int), (m : Int)) d0 d1 ?_)
                  | (refine app_ext (.tmp 90) (.tmp 92) rfl rfl w.heap.size (.slice Al (natE out).length cl) (natE out) rfl HZ.out.2.2.1 (w5.heap.size + 1) _ 1 1 [((e1 : Int), (m : Int))] rfl rfl HZ.out.2.2.2.1 (by rw [HLEN.out]; omega) (by simp; omega) ?_; intro v7 w7 h7 g7 a7; have r0 : w7.cell? ⟨gb, 1, none⟩ = some (.int .i64 (m : Int)) := ((HZ.out.1.grown g7 (fun e => by have := (HZ.out.2.2.2.2.1 gb e.symm).2; omega)).cell 1)))
                have h7' : OwnE w7 w.heap.size v7 (natE (out ++ [(e1, m)])) := by simpa [natE] using h7
                have BW7 : Below w.heap.size w w7 := ((HM.out.bel.trans (HZ.out.2.1.mono (by omega))).alloc (by omega) _).grown g7 (by simp; omega) (fun k hk => (HZ.out.2.2.2.2.1 k hk).1)
                have R7 : OwnB w7 wr.heap.size (.slice A5 (setR fl' e1 m false).length c5) (setR fl' e1 m false) := by
                  have h := HZ.out.2.2.2.2.2
                  try rw [HZ4.out] at h
                  refine row_of h fun k hk => ?_
                  have hk2 := World.ownsRow.lt h k (mem_rowOf.1 hk)
                  exact (g7.block k (by simp; omega) (fun e => by have := (HZ.out.2.2.2.2.1 k e.symm).2; omega)).trans (Below.heap_alloc _ _ _ hk2.2)
                have D7 : DRow w w7 A A5 (setR fl' e1 m false) := ⟨R7.reads.2, .inr fun ad hA => by
                  subst hA
                  have := (World.ownsRow.lt R7 ad.block rfl).1
                  omega⟩
                have HE := Lib.hid (And.intro h7' (And.intro BW7 D7))
                clear h7 g7 a7 h7' BW7 R7 D7 d0 d1
                have hst := HM.out.step hm0 (by rw [HL.out.1]; exact HQ.out.2.2.1) (A2 := A5) (wz := w7) (lv2 := v7) (by rw [hmin]; exact HE.out.2.2) (by rw [hmin]; exact HE.out.1) HE.out.2.1
                rw [hmin] at hst
                have HST := Lib.hid hst
                clear hst HE
                go_roundw
                case rel =>
                  exact ⟨m - m, A5, c5, setR fl' e1 m false, out ++ [(e1, m)], by go_num, rfl, by omega, hl5, HST.out⟩
                case measure => simp [intS]; omega
              · have hd1 : decide ((m : Int) < (e2 : Int)) = false := decide_eq_false (by omega)
                have K4 : Blk wr gb 45 #[.int .i64 (e1 : Int), .int .i64 (e2 : Int)] := hK
                have hmin : min e2 m = e2 := by omega
                have HZ4 : Hid ((wr).heap.size = wr.heap.size) := Lib.hid (by simp [World.setCell])
                have Z4 := HZ4.out
                have BO4 : Below wo.heap.size wo (wr) := hbo
                have c0 : (wr).cell? ⟨gb, 0, none⟩ = some (.int .i64 (e1 : Int)) := K4.cell 0
                have c1 : (wr).cell? ((⟨gb, 0, none⟩ : Addr).add 1) = some (.int .i64 (e2 : Int)) := K4.cell 1
                have HW := Lib.hid (dwith_any (w := wr) (c := c') e1 e2 false (by omega) (by omega) (HM.out.row.reads.below BO4) (by omega))
                rw [hfl] at HW
                have HQ := Lib.hid (And.intro K4 (And.intro BO4 (And.intro hbest hOl)))
                clear K4 BO4 hbest hOl hK hO hEr hbo hRr Z4
                go_wp2_with (refine wpList_load_ext rfl (.tmp 9) rfl _ rfl ((e1 : Int), (e2 : Int)) c0 c1 ?_)
                clear c0 c1 p0 p1 f0 f1
                refine HW.out.mono ?_
                rintro e5 w5 ⟨v5, rfl, hv5, hb5⟩
                obtain ⟨A5, c5, rfl⟩ := hv5.form
                have hl5 : (setR fl' e1 e2 false).length = fl.length := by rw [setR_len (by omega)]; exact hfl
                rw [hl5]
                have K5 : Blk w5 gb 45 #[.int .i64 (e1 : Int), .int .i64 (e2 : Int)] := HQ.out.1.below hb5 (by first | omega | (rw [HZ4.out]; omega))
                have d0 : w5.cell? ⟨gb, 0, none⟩ = some (.int .i64 (e1 : Int)) := K5.cell 0
                have d1 : w5.cell? ((⟨gb, 0, none⟩ : Addr).add 1) = some (.int .i64 (e2 : Int)) := K5.cell 1
                have hz5 : wr.heap.size ≤ w5.heap.size := by have h1 := hb5.size; have h2 := HZ4.out; omega
                have BO5 : Below wo.heap.size wo w5 := HQ.out.2.1.trans (hb5.mono (by first | omega | (rw [HZ4.out]; omega)))
                have OW6 : OwnE (w5.alloc (.cells (ext1 ((e1 : Int), (e2 : Int))).toArray 45)) w.heap.size (.slice Al (natE out).length cl) (natE out) := (HM.out.own.under2 BO5).alloc _
                have X6 := ext_new w5 ((e1 : Int), (e2 : Int))
                have hbe := build_ext ((e1 : Int), (e2 : Int))
                have hal : ∀ k, (Value.slice Al (natE out).length cl).ownBlock = some k → w.heap.size ≤ k ∧ k < wo.heap.size := fun k hk => World.ownsRow.lt HM.out.own k hk
                have K6 := K5.alloc (.cells (ext1 ((e1 : Int), (e2 : Int))).toArray 45)
                have HZ := Lib.hid (And.intro K6 (And.intro BO5 (And.intro OW6 (And.intro X6 (And.intro hal hv5)))))
                have hwm : IntKind.i64.wrap ((m : Int) - (e2 : Int)) = ((m - e2 : Nat) : Int) := by rw [IntKind.wrap_i64]; omega
                clear K5 K6 BO5 OW6 X6 hal hv5 hb5 HW
                go_wp2_with (first
                  | (refine wpList_load_ext rfl (.tmp 9) rfl _ rfl ((e1 : Int), (e2 : Int)) d0 d1 ?_)
                  | (refine app_ext (.tmp 90) (.tmp 92) rfl rfl w.heap.size (.slice Al (natE out).length cl) (natE out) rfl HZ.out.2.2.1 (w5.heap.size + 1) _ 1 1 [((e1 : Int), (e2 : Int))] rfl rfl HZ.out.2.2.2.1 (by rw [HLEN.out]; omega) (by simp; omega) ?_; intro v7 w7 h7 g7 a7; have r0 : w7.cell? ⟨gb, 1, none⟩ = some (.int .i64 (e2 : Int)) := ((HZ.out.1.grown g7 (fun e => by have := (HZ.out.2.2.2.2.1 gb e.symm).2; omega)).cell 1)))
                have h7' : OwnE w7 w.heap.size v7 (natE (out ++ [(e1, e2)])) := by simpa [natE] using h7
                have BW7 : Below w.heap.size w w7 := ((HM.out.bel.trans (HZ.out.2.1.mono (by omega))).alloc (by omega) _).grown g7 (by simp; omega) (fun k hk => (HZ.out.2.2.2.2.1 k hk).1)
                have R7 : OwnB w7 wr.heap.size (.slice A5 (setR fl' e1 e2 false).length c5) (setR fl' e1 e2 false) := by
                  have h := HZ.out.2.2.2.2.2
                  try rw [HZ4.out] at h
                  refine row_of h fun k hk => ?_
                  have hk2 := World.ownsRow.lt h k (mem_rowOf.1 hk)
                  exact (g7.block k (by simp; omega) (fun e => by have := (HZ.out.2.2.2.2.1 k e.symm).2; omega)).trans (Below.heap_alloc _ _ _ hk2.2)
                have D7 : DRow w w7 A A5 (setR fl' e1 e2 false) := ⟨R7.reads.2, .inr fun ad hA => by
                  subst hA
                  have := (World.ownsRow.lt R7 ad.block rfl).1
                  omega⟩
                have HE := Lib.hid (And.intro h7' (And.intro BW7 D7))
                clear h7 g7 a7 h7' BW7 R7 D7 d0 d1
                have hst := HM.out.step hm0 (by rw [HL.out.1]; exact HQ.out.2.2.1) (A2 := A5) (wz := w7) (lv2 := v7) (by rw [hmin]; exact HE.out.2.2) (by rw [hmin]; exact HE.out.1) HE.out.2.1
                rw [hmin] at hst
                have HST := Lib.hid hst
                clear hst HE
                go_roundw
                case rel =>
                  exact ⟨m - e2, A5, c5, setR fl' e1 e2 false, out ++ [(e1, e2)], by go_num, rfl, by omega, hl5, HST.out⟩
                case measure => simp [intS]; omega
end Go.Proofs.Ytliockcbnmbhnaa
