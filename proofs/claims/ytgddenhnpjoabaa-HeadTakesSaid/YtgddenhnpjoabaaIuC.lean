/-
  The document's Take of heads on any bytes. Condition: no more than twenty thousand bytes.
-/
import Derived.Test.YtgddenhnpjoabaaEh
import Derived.Test.YtgddenhnpjoabaaIoC
namespace Go.Proofs.Ytgddenhnpjoabaa
open Go.RowKit Go.BigFrame
set_option linter.unusedSimpArgs false
set_option linter.unusedVariables false
set_option maxRecDepth 100000
def DTakeHTo (w : World) (b : List Nat) (e : Ending) (w' : World) : Prop :=
  Below w.heap.size w w' ∧ ((DOk b ∧ ∃ d : HA, e = .returned (.tuple #[.agg d.cs, .bool true]) ∧ d.v = (⟨b, false⟩ : RD).ddv ∧ ∀ W, (∀ k, w.heap.size ≤ k → k < w'.heap.size → W.heap[k]? = w'.heap[k]?) → d.R SA.dcells W) ∨ (¬ DOk b ∧ e = .returned (.tuple #[.agg #[.int .i64 0, .int .i64 0, .int .i64 0, .int .i64 0, .slice none 0 0, .bool false, .bool false, .slice none 0 0, .string ⟨#[]⟩, .int .i64 0, .int .i64 0, .int .i64 0, .int .i64 0, .int .i64 0], .bool false])))
theorem dhead_zero (w : World) : (zeroValue 29).run Try.prog w = .ok (.agg #[.int .i64 0, .int .i64 0, .int .i64 0, .int .i64 0, .slice none 0 0, .bool false, .bool false, .slice none 0 0, .string ⟨#[]⟩, .int .i64 0, .int .i64 0, .int .i64 0, .int .i64 0, .int .i64 0]) w := by kernel_rfl
theorem dsnap_zero (w : World) : (zeroValue 74).run Try.prog w = .ok (.agg #[.int .i64 0, .int .i64 0, .string ⟨#[]⟩, .bool false, .bool false, .bool false, .slice none 0 0, .string ⟨#[]⟩, .int .i64 0, .int .i64 0, .slice none 0 0]) w := by kernel_rfl
theorem dreader_zero (w : World) : (zeroValue 108).run Try.prog w = .ok (.agg #[.slice none 0 0, .bool false]) w := by kernel_rfl
/-- the state ahead of the j-th snapshot -/
structure InR (w : World) (gr gh gs : Nat) (H : List Value) (X : Value → Array Value) (N : Nat) (u : RD) (m : MkV) (M : Option Addr) (cm : Nat) (acc : List SA) (S : Option Addr) (cS : Nat) (k : Nat) (s : RD) (ch : List (List Nat)) (C : Option Addr) (cc : Nat) (wr : World) : Prop where
  len : ch.length = k
  le : k ≤ N
  all : RD.dchL N u = ch ++ RD.dchL (N - k) s
  fin : RD.dchT N u = RD.dchT (N - k) s
  D : Dk w gr gr gh H s acc S cS wr
  K : Blk wr gs 74 (X (.slice C ch.length cc))
  own : wr.ownsRow gs 9 1 (.slice C ch.length cc) ch.length (strs ch)
  lt : ∀ c ∈ ch, ∀ b ∈ c, b < 256
  mrk : Own wr gr (.slice M m.row.length cm) m.row.length m.row
theorem InR.few {w : World} {gr gh gs : Nat} {H : List Value} {X : Value → Array Value} {N : Nat} {u : RD} {m : MkV} {M : Option Addr} {cm : Nat} {acc : List SA} {S : Option Addr} {cS : Nat} {k : Nat} {s : RD} {ch : List (List Nat)} {C : Option Addr} {cc : Nat} {wr : World} (h : InR w gr gh gs H X N u m M cm acc S cS k s ch C cc wr) (hu : u.bs.length ≤ 20000) : k ≤ 2600 := by
  have := dch_len N u
  rw [h.all, List.length_append, h.len] at this
  omega
def OutR (w : World) (gr gh : Nat) (nid nsz nob nsq : Int) (N : Nat) (u5 : RD) (j : Nat) (s : RD) (acc : List SA) (S : Option Addr) (cS : Nat) (wr : World) : Prop :=
  acc.length = j ∧ j ≤ N ∧ RD.dsnL N u5 = acc.map SA.v ++ RD.dsnL (N - j) s ∧ RD.dsnT N u5 = RD.dsnT (N - j) s ∧ Dk w gr gr gh [.int .i64 nid, .int .i64 nsz, .int .i64 nob, .int .i64 nsq, .slice S acc.length cS, .bool false, .bool false, .slice none 0 0, .string ⟨#[]⟩, .int .i64 0, .int .i64 0, .int .i64 0, .int .i64 0, .int .i64 0] s acc S cS wr
theorem dsnL_stop {k : Nat} {s : RD} (h : k = 0 ∨ s.bad = true) : RD.dsnL k s = [] ∧ RD.dsnT k s = s := by
  unfold RD.dsnL RD.dsnT
  cases k with
  | zero => exact ⟨rfl, rfl⟩
  | succ k =>
    have hb := h.resolve_left (by omega)
    rw [itBL, itBT, if_pos hb, if_pos hb]
    exact ⟨rfl, rfl⟩
theorem dsnL_go {k : Nat} {s : RD} (h : 0 < k) (hb : s.bad = false) : RD.dsnL k s = s.dsnv :: RD.dsnL (k - 1) s.dsnTo ∧ RD.dsnT k s = RD.dsnT (k - 1) s.dsnTo := by
  unfold RD.dsnL RD.dsnT
  cases k with
  | zero => omega
  | succ k =>
    rw [itBL, itBT, if_neg (by rw [hb]; simp), if_neg (by rw [hb]; simp)]
    exact ⟨rfl, rfl⟩
theorem dchL_stop {k : Nat} {s : RD} (h : k = 0 ∨ s.bad = true) : RD.dchL k s = [] ∧ RD.dchT k s = s := by
  unfold RD.dchL RD.dchT
  cases k with
  | zero => exact ⟨rfl, rfl⟩
  | succ k =>
    have hb := h.resolve_left (by omega)
    rw [itBL, itBT, if_pos hb, if_pos hb]
    exact ⟨rfl, rfl⟩
theorem dchL_go {k : Nat} {s : RD} (h : 0 < k) (hb : s.bad = false) : RD.dchL k s = s.bytes :: RD.dchL (k - 1) s.bytesTo ∧ RD.dchT k s = RD.dchT (k - 1) s.bytesTo := by
  unfold RD.dchL RD.dchT
  cases k with
  | zero => omega
  | succ k =>
    rw [itBL, itBT, if_neg (by rw [hb]; simp), if_neg (by rw [hb]; simp)]
    exact ⟨rfl, rfl⟩
theorem OutR.few {w : World} {gr gh : Nat} {nid nsz nob nsq : Int} {N : Nat} {u5 : RD} {j : Nat} {s : RD} {acc : List SA} {S : Option Addr} {cS : Nat} {wr : World} (h : OutR w gr gh nid nsz nob nsq N u5 j s acc S cS wr) (hu : u5.bs.length ≤ 20000) : j ≤ 900 := by
  obtain ⟨h1, h2, h3, h4, h5⟩ := h
  have := dsn_len N u5
  rw [h3, List.length_append, List.length_map, h1] at this
  omega
set_option maxHeartbeats 32000000 in
theorem dtakehead_any (A0 : Option Addr) (c : Nat) (b : List Nat) (w : World) (hb : Bytes w w.heap.size A0 b.length b) (hn : b.length ≤ 20000) : Calls Try.prog 22 #[.slice A0 b.length c] w (DTakeHTo w b) := by
  obtain ⟨w1, hw1⟩ : ∃ W, W = w.alloc (.cells #[.int .i64 0, .int .i64 0, .int .i64 0, .int .i64 0, .slice none 0 0, .bool false, .bool false, .slice none 0 0, .string ⟨#[]⟩, .int .i64 0, .int .i64 0, .int .i64 0, .int .i64 0, .int .i64 0] 29) := ⟨_, rfl⟩
  have b1 : Below w.heap.size w w1 := by rw [hw1]; exact below_alloc w _
  have hz1 : w1.heap.size = w.heap.size + 1 := by rw [hw1]; simp
  have k1 : Blk w1 w.heap.size 29 #[.int .i64 0, .int .i64 0, .int .i64 0, .int .i64 0, .slice none 0 0, .bool false, .bool false, .slice none 0 0, .string ⟨#[]⟩, .int .i64 0, .int .i64 0, .int .i64 0, .int .i64 0, .int .i64 0] := by rw [hw1]; exact Blk.new w _ _
  have HB := Lib.hid hb
  have HNB := Lib.hid hn
  have HK1 := Lib.hid (And.intro b1 (And.intro hz1 k1))
  have HW1 := Lib.hid hw1
  have b2 : Below w1.heap.size w1 (w1.alloc (.cells #[] 5)) := below_alloc w1 _
  have ho2 : Own (w1.alloc (.cells #[] 5)) w1.heap.size (.slice (some ⟨w1.heap.size, 0, none⟩) 0 0) 0 [] := Own.new w1 w1.heap.size (Nat.le_refl _)
  have HB2 : Hid (Bytes (w1.alloc (.cells #[] 5)) (w1.alloc (.cells #[] 5)).heap.size A0 b.length b) := Lib.hid ((((hb.since b1).more b1.size).since b2).more b2.size)
  have HO2 := Lib.hid (And.intro ho2 (And.intro b2 hz1))
  have HSB : Hid (∀ x ∈ b, x < 256) := Lib.hid hb.2
  clear hb b1 hz1 k1 hw1 b2 ho2
  have hz0 := dhead_zero
  have hzr := dreader_zero
  go_enter Try.func22, Try.ntmps22
  go_upto_region 1 with (fail)
  rw [← HW1.out]
  clear HW1
  go_wp2_with (have _h := HB2; refine app_bytes (.tmp 11) (.tmp 12) rfl rfl w1.heap.size (.slice (some ⟨w1.heap.size, 0, none⟩) 0 0) 0 [] rfl HO2.out.1 _ A0 b.length c b rfl HB2.out (by omega) (by simp) ?_; clear _h HB2; intro v3 w3 h3 g3 e3; obtain ⟨A3, c3, rfl⟩ := own_form h3)
  simp only [Nat.zero_add, List.nil_append] at h3
  obtain ⟨w4, hw4⟩ : ∃ W, W = w3.alloc (.cells #[.slice A3 b.length c3, .bool false] 108) := ⟨_, rfl⟩
  obtain ⟨gr, hgr⟩ : ∃ g, g = w3.heap.size := ⟨_, rfl⟩
  obtain ⟨s0, hs0⟩ : ∃ s : RD, s = ⟨b, false⟩ := ⟨_, rfl⟩
  have hsh := own_shape h3
  have b4 : Below w3.heap.size w3 w4 := by rw [hw4]; exact below_alloc w3 _
  have hm4 : Mr w4 gr gr s0 := by
    rw [hs0, hgr]
    refine ⟨A3, c3, ?_, ((h3.bytes HSB.out).since b4), hsh.2.1, hsh.2.2.1, Nat.le_refl _, ⟨fun h => (by cases h), HSB.out⟩⟩
    rw [hw4]
    exact Blk.new w3 _ _
  have o3 : Only [w1.heap.size] w1 w3 := ((Only.refl [w1.heap.size] w1).alloc (.cells #[] 5)).grown g3 (fun g e => .inl (by injection e with e; subst e; simp))
  have b3 : Below w.heap.size w w3 := HK1.out.1.trans (o3.below (fun x hx => by simp at hx; have := HK1.out.2.1; omega) HK1.out.1.size)
  have b04 : Below w.heap.size w w4 := b3.trans (b4.mono b3.size)
  have hz4 : w.heap.size < gr ∧ gr < w4.heap.size := ⟨by rw [hgr]; have := o3.size; have := HK1.out.2.1; omega, by rw [hgr, hw4, World.size_alloc]; omega⟩
  have kr4 : Blk w4 w.heap.size 29 #[.int .i64 0, .int .i64 0, .int .i64 0, .int .i64 0, .slice none 0 0, .bool false, .bool false, .slice none 0 0, .string ⟨#[]⟩, .int .i64 0, .int .i64 0, .int .i64 0, .int .i64 0, .int .i64 0] := (HK1.out.2.2.only o3 (by have := HK1.out.2.1; simp; omega)).of (b4.block _ (by have := hz4.1; omega))
  have HS0 := Lib.hid hs0
  obtain ⟨u1, hu1⟩ : ∃ s, s = s0.take 8 := ⟨_, rfl⟩
  obtain ⟨u2, hu2⟩ : ∃ s, s = u1.take 8 := ⟨_, rfl⟩
  obtain ⟨u3, hu3⟩ : ∃ s, s = u2.take 8 := ⟨_, rfl⟩
  obtain ⟨u4, hu4⟩ : ∃ s, s = u3.take 8 := ⟨_, rfl⟩
  obtain ⟨u5, hu5⟩ : ∃ s, s = u4.take 8 := ⟨_, rfl⟩
  obtain ⟨nid, hnid⟩ : ∃ n, n = s0.num := ⟨_, rfl⟩
  obtain ⟨nsz, hnsz⟩ : ∃ n, n = u1.num := ⟨_, rfl⟩
  obtain ⟨nob, hnob⟩ : ∃ n, n = u2.num := ⟨_, rfl⟩
  obtain ⟨nsq, hnsq⟩ : ∃ n, n = u3.num := ⟨_, rfl⟩
  obtain ⟨many, hmany⟩ : ∃ n, n = u4.num := ⟨_, rfl⟩
  have hl0 : s0.bs.length ≤ 20000 := by rw [hs0]; exact hn
  have HM4 : Hid (Calls Try.prog 62 #[.pointer (some ⟨gr, 0, none⟩)] w4 fun e w' => e = .returned (.int .i64 nid) ∧ Mr w' gr gr u1 ∧ Only [gr] w4 w') := Lib.hid (by rw [hnid, hu1]; exact mnum_any w4 gr gr s0 hm4 (by omega))
  have HE4 := Lib.hid (And.intro b04 (And.intro hz4 (And.intro kr4 hl0)))
  have HU1 := Lib.hid hu1
  have HU2 := Lib.hid hu2
  have HU3 := Lib.hid hu3
  have HU4 := Lib.hid hu4
  have HU5 := Lib.hid hu5
  have HN0 := Lib.hid hnid
  have HN1 := Lib.hid hnsz
  have HN2 := Lib.hid hnob
  have HN3 := Lib.hid hnsq
  have HN4 := Lib.hid hmany
  have HW4 := Lib.hid (And.intro hw4 hgr)
  clear h3 g3 e3 hw4 hgr hs0 hsh b4 hm4 o3 b3 b04 hz4 kr4 hu1 hu2 hu3 hu4 hu5 hnid hnsz hnob hnsq hmany hl0 HO2 hn
  rw [← HW4.out.1, ← HW4.out.2]
  clear HW4
  refine HM4.out.mono ?_
  rintro e w5 ⟨rfl, hm5, o5⟩
  obtain ⟨w6, hw6⟩ : ∃ W, W = w5.alloc (.cells #[.int .i64 nid, .int .i64 0, .int .i64 0, .int .i64 0, .slice none 0 0, .bool false, .bool false, .slice none 0 0, .string ⟨#[]⟩, .int .i64 0, .int .i64 0, .int .i64 0, .int .i64 0, .int .i64 0] 29) := ⟨_, rfl⟩
  obtain ⟨gh, hgh⟩ : ∃ g, g = w5.heap.size := ⟨_, rfl⟩
  have b6 : Below w5.heap.size w5 w6 := by rw [hw6]; exact below_alloc w5 _
  have hz5 : gr < w5.heap.size := by have := o5.size; have := HE4.out.2.1.2; omega
  have D0 : Hid (Dk w gr gr gh [.int .i64 nid, .int .i64 0, .int .i64 0, .int .i64 0, .slice none 0 0, .bool false, .bool false, .slice none 0 0, .string ⟨#[]⟩, .int .i64 0, .int .i64 0, .int .i64 0, .int .i64 0, .int .i64 0] u1 [] none 0 w6) := Lib.hid (by
    have bw5 : Below w.heap.size w w5 := HE4.out.1.trans (o5.below (fun x hx => by simp at hx; have := HE4.out.2.1.1; omega) HE4.out.1.size)
    refine ⟨hm5.below b6, by rw [HU1.out]; exact Nat.le_trans (take_ln _ _) HE4.out.2.2.2, by rw [hw6, hgh]; exact Blk.new w5 _ _, (HE4.out.2.2.1.only o5 (by have := HE4.out.2.1.1; simp; omega)).of (b6.block _ (by have := HE4.out.2.1.1; omega)), fun x hx => (by cases hx), World.ownsRow_nil _ _ _ 11, bw5.trans (b6.mono bw5.size), HE4.out.2.1.1, by rw [hgh]; omega, by rw [hgh]; omega, by have := b6.size; omega⟩)
  have HW6 := Lib.hid (And.intro hw6 hgh)
  clear hm5 o5 hw6 hgh b6 hz5 HM4 HE4
  go_upto_region 3 with (fail)
  rw [← HW6.out.1, ← HW6.out.2]
  clear HW6
  go_wp2_with fail
  refine (D0.out.num HU2.out HN1.out).mono ?_
  rintro e W0 ⟨rfl, d, o⟩
  have K0 := d.hd
  have D0' := Lib.hid d
  clear d o D0
  go_wp2_with (have _h := K0; refine wpList_setq rfl 3 (.tmp 21) (.tmp 20) rfl gh 1 29 _ (.int .i64 nsz) rfl rfl K0 (by simp) (by kernel_rfl) rfl ?_; clear _h K0; intro V0 k o q)
  have D1 : Hid (Dk w gr gr gh [.int .i64 nid, .int .i64 nsz, .int .i64 0, .int .i64 0, .slice none 0 0, .bool false, .bool false, .slice none 0 0, .string ⟨#[]⟩, .int .i64 0, .int .i64 0, .int .i64 0, .int .i64 0, .int .i64 0] u2 [] none 0 V0) := Lib.hid (D0'.out.seth o k)
  clear k o q D0'
  go_wp2_with fail
  refine (D1.out.num HU3.out HN2.out).mono ?_
  rintro e W1 ⟨rfl, d, o⟩
  have K1 := d.hd
  have D1' := Lib.hid d
  clear d o D1
  go_wp2_with (have _h := K1; refine wpList_setq rfl 3 (.tmp 24) (.tmp 23) rfl gh 2 29 _ (.int .i64 nob) rfl rfl K1 (by simp) (by kernel_rfl) rfl ?_; clear _h K1; intro V1 k o q)
  have D2 : Hid (Dk w gr gr gh [.int .i64 nid, .int .i64 nsz, .int .i64 nob, .int .i64 0, .slice none 0 0, .bool false, .bool false, .slice none 0 0, .string ⟨#[]⟩, .int .i64 0, .int .i64 0, .int .i64 0, .int .i64 0, .int .i64 0] u3 [] none 0 V1) := Lib.hid (D1'.out.seth o k)
  clear k o q D1'
  go_wp2_with fail
  refine (D2.out.num HU4.out HN3.out).mono ?_
  rintro e W2 ⟨rfl, d, o⟩
  have K2 := d.hd
  have D2' := Lib.hid d
  clear d o D2
  go_wp2_with (have _h := K2; refine wpList_setq rfl 3 (.tmp 27) (.tmp 26) rfl gh 3 29 _ (.int .i64 nsq) rfl rfl K2 (by simp) (by kernel_rfl) rfl ?_; clear _h K2; intro V2 k o q)
  have D3 : Hid (Dk w gr gr gh [.int .i64 nid, .int .i64 nsz, .int .i64 nob, .int .i64 nsq, .slice none 0 0, .bool false, .bool false, .slice none 0 0, .string ⟨#[]⟩, .int .i64 0, .int .i64 0, .int .i64 0, .int .i64 0, .int .i64 0] u4 [] none 0 V2) := Lib.hid (D2'.out.seth o k)
  clear k o q D2'
  go_wp2_with fail
  refine (D3.out.num HU5.out HN4.out).mono ?_
  rintro e w9 ⟨rfl, d, o⟩
  have D9 := Lib.hid d
  clear d o D3
  have hu5l : u5.bs.length ≤ 20000 := D9.out.ln
  have HU5L := Lib.hid hu5l
  clear hu5l
  obtain ⟨N, hN⟩ : ∃ N, N = many.toNat := ⟨_, rfl⟩
  have HNN := Lib.hid hN
  clear hN
  go_wp2
  go_loopw [7] (fun i wr => ∃ (j : Nat) (s : RD) (acc : List SA) (S : Option Addr) (cS : Nat), i = .int .i64 j ∧ OutR w gr gh nid nsz nob nsq N u5 j s acc S cS wr) (fun i _ => 1000 - (intOf i).toNat)
  case atStart => exact ⟨0, u5, [], none, 0, rfl, rfl, Nat.zero_le _, rfl, rfl, D9.out⟩
  case round =>
    obtain ⟨j, s, acc, S, cS, rfl, hR⟩ := hrel
    have HR := Lib.hid hR
    have hj9 := hR.few HU5L.out
    obtain ⟨A1, c1, kr, -⟩ := hR.2.2.2.2.rd
    have q1 : wr.cell? ⟨gr, 1, none⟩ = some (.bool s.bad) := kr.cell 1
    obtain ⟨bd, hbd⟩ : ∃ x, x = s.bad := ⟨_, rfl⟩
    rw [← hbd] at q1
    have HBD := Lib.hid hbd
    clear hR kr hbd D9
    go_upto_region 8 with (fail)
    go_cut [39] from 30 to 39 (fun v wx => ∃ x : Bool, v = .bool x ∧ (x = true ↔ j < N ∧ bd = false) ∧ wr = wx)
    case first =>
      by_cases hlt : j < N
      · have dl : decide ((j : Int) < many) = true := decide_eq_true (by have := HNN.out; omega)
        cases bd with
        | true =>
          go_wp2
          go_meet
          exact ⟨false, rfl, ⟨(fun h => by cases h), (fun h => by cases h.2)⟩, rfl⟩
        | false =>
          have HLT := Lib.hid hlt
          clear hlt
          go_wp2
          go_meet
          exact ⟨true, rfl, ⟨fun _ => ⟨HLT.out, by trivial⟩, fun _ => rfl⟩, rfl⟩
      · have dl : decide ((j : Int) < many) = false := decide_eq_false (by have := HNN.out; omega)
        have HLT := Lib.hid hlt
        clear hlt
        go_wp2
        go_meet
        exact ⟨false, rfl, ⟨(fun h => by cases h), (fun h => absurd h.1 HLT.out)⟩, rfl⟩
    obtain ⟨x, rfl, hx, hwc⟩ := hcut
    obtain rfl := hwc
    clear q1
    cases x with
    | false => as_aux_lemma =>
      have hstop : N - j = 0 ∨ s.bad = true := by
        by_cases h : j < N
        · right
          cases hb : s.bad with
          | true => rfl
          | false =>
            have := hx.2 ⟨h, HBD.out.trans hb⟩
            cases this
        · left; omega
      obtain ⟨e1, e2⟩ := dsnL_stop hstop
      have HL9 : Hid (RD.dsnL N u5 = acc.map SA.v ∧ RD.dsnT N u5 = s) := Lib.hid (by
        obtain ⟨r1, r2, r3, r4, r5⟩ := HR.out
        exact ⟨by rw [r3, e1, List.append_nil], by rw [r4, e2]⟩)
      clear hx hstop e1 e2 HBD
      have E0 : Hid (Dk w gr gr gh [.int .i64 nid, .int .i64 nsz, .int .i64 nob, .int .i64 nsq, .slice S acc.length cS, .bool false, .bool false, .slice none 0 0, .string ⟨#[]⟩, .int .i64 0, .int .i64 0, .int .i64 0, .int .i64 0, .int .i64 0] s acc S cS wr) := Lib.hid HR.out.2.2.2.2
      obtain ⟨x1, hx1⟩ : ∃ t, t = s.mkTo := ⟨_, rfl⟩
      obtain ⟨x2, hx2⟩ : ∃ t, t = x1.lkTo := ⟨_, rfl⟩
      obtain ⟨x3, hx3⟩ : ∃ t, t = x2.take 8 := ⟨_, rfl⟩
      obtain ⟨x4, hx4⟩ : ∃ t, t = x3.take 8 := ⟨_, rfl⟩
      obtain ⟨x5, hx5⟩ : ∃ t, t = x4.take 8 := ⟨_, rfl⟩
      obtain ⟨m, hm⟩ : ∃ t, t = s.mkv := ⟨_, rfl⟩
      obtain ⟨l, hl⟩ : ∃ t, t = x1.lkv := ⟨_, rfl⟩
      obtain ⟨ow, how⟩ : ∃ t, t = x2.num := ⟨_, rfl⟩
      obtain ⟨it, hit⟩ : ∃ t, t = x3.num := ⟨_, rfl⟩
      obtain ⟨tg, htg⟩ : ∃ t, t = x4.num := ⟨_, rfl⟩
      have Y1 := Lib.hid (And.intro hx1 hm)
      have Y2 := Lib.hid (And.intro hx2 hl)
      have Y3 := Lib.hid (And.intro hx3 how)
      have Y4 := Lib.hid (And.intro hx4 hit)
      have Y5 := Lib.hid (And.intro hx5 htg)
      clear hx1 hx2 hx3 hx4 hx5 hm hl how hit htg
      go_wp2_with fail
      refine (E0.out.marks Y1.out.1 Y1.out.2).mono ?_
      rintro e W22 ⟨M, cm, rfl, ho, hmlt, d, o⟩
      have K22 := d.hd
      have E1 := Lib.hid d
      have HO1 : Hid (Own W22 gr (.slice M m.row.length cm) m.row.length m.row) := Lib.hid (ho.weaken E0.out.c4)
      have HML := Lib.hid hmlt
      clear d o ho hmlt E0
      go_wp2_with (have _h := K22; refine wpList_set3 rfl 25 (.tmp 91) (.tmp 90) rfl gh 5 29 _ (.bool m.on) (.bool m.good) (.slice M m.row.length cm) rfl rfl K22 (by simp) (by kernel_rfl) rfl rfl rfl ?_; clear _h K22; intro V22 k o q)
      have E2 : Hid (Dk w gr gr gh [.int .i64 nid, .int .i64 nsz, .int .i64 nob, .int .i64 nsq, .slice S acc.length cS, .bool m.on, .bool m.good, .slice M m.row.length cm, .string ⟨#[]⟩, .int .i64 0, .int .i64 0, .int .i64 0, .int .i64 0, .int .i64 0] x1 acc S cS V22) := Lib.hid (E1.out.seth o k)
      have HO2 : Hid (Own V22 gr (.slice M m.row.length cm) m.row.length m.row) := Lib.hid (row_stay HO1.out E1.out.hd (by decide) o)
      clear k o q HO1 E1
      refine (E2.out.link Y2.out.1 Y2.out.2).mono ?_
      rintro e W23 ⟨rfl, hllt, d, o⟩
      have K23 := d.hd
      have E3 := Lib.hid d
      have HO3 : Hid (Own W23 gr (.slice M m.row.length cm) m.row.length m.row) := Lib.hid (by
        obtain ⟨cr, kr⟩ := E2.out.rdb
        exact row_stay HO2.out kr (by decide) o)
      have HLL := Lib.hid hllt
      clear d o hllt E2 HO2
      go_wp2_with (have _h := K23; refine wpList_set3 rfl 27 (.tmp 94) (.tmp 93) rfl gh 8 29 _ (.string (strOf l.par)) (.int .i64 l.ps) (.int .i64 l.ov) rfl rfl K23 (by simp) (by kernel_rfl) rfl rfl rfl ?_; clear _h K23; intro V23 k o q)
      have E4 : Hid (Dk w gr gr gh [.int .i64 nid, .int .i64 nsz, .int .i64 nob, .int .i64 nsq, .slice S acc.length cS, .bool m.on, .bool m.good, .slice M m.row.length cm, .string (strOf l.par), .int .i64 l.ps, .int .i64 l.ov, .int .i64 0, .int .i64 0, .int .i64 0] x2 acc S cS V23) := Lib.hid (E3.out.seth o k)
      have HO4 : Hid (Own V23 gr (.slice M m.row.length cm) m.row.length m.row) := Lib.hid (row_stay HO3.out E3.out.hd (by decide) o)
      clear k o q HO3 E3
      refine (E4.out.num Y3.out.1 Y3.out.2).mono ?_
      rintro e W4 ⟨rfl, d, o⟩
      have K4 := d.hd
      have E5 := Lib.hid d
      have HO5 : Hid (Own W4 gr (.slice M m.row.length cm) m.row.length m.row) := Lib.hid (by
        obtain ⟨cr, kr⟩ := E4.out.rdb
        exact row_stay HO4.out kr (by decide) o)
      clear d o E4 HO4
      go_wp2_with (have _h := K4; refine wpList_setq rfl 3 (.tmp 97) (.tmp 96) rfl gh 11 29 _ (.int .i64 ow) rfl rfl K4 (by simp) (by kernel_rfl) rfl ?_; clear _h K4; intro V4 k o q)
      have E6 : Hid (Dk w gr gr gh [.int .i64 nid, .int .i64 nsz, .int .i64 nob, .int .i64 nsq, .slice S acc.length cS, .bool m.on, .bool m.good, .slice M m.row.length cm, .string (strOf l.par), .int .i64 l.ps, .int .i64 l.ov, .int .i64 ow, .int .i64 0, .int .i64 0] x3 acc S cS V4) := Lib.hid (E5.out.seth o k)
      have HO6 : Hid (Own V4 gr (.slice M m.row.length cm) m.row.length m.row) := Lib.hid (row_stay HO5.out E5.out.hd (by decide) o)
      clear k o q HO5 E5
      refine (E6.out.num Y4.out.1 Y4.out.2).mono ?_
      rintro e W6 ⟨rfl, d, o⟩
      have K6 := d.hd
      have E7 := Lib.hid d
      have HO7 : Hid (Own W6 gr (.slice M m.row.length cm) m.row.length m.row) := Lib.hid (by
        obtain ⟨cr, kr⟩ := E6.out.rdb
        exact row_stay HO6.out kr (by decide) o)
      clear d o E6 HO6
      go_wp2_with (have _h := K6; refine wpList_setq rfl 3 (.tmp 100) (.tmp 99) rfl gh 12 29 _ (.int .i64 it) rfl rfl K6 (by simp) (by kernel_rfl) rfl ?_; clear _h K6; intro V6 k o q)
      have E8 : Hid (Dk w gr gr gh [.int .i64 nid, .int .i64 nsz, .int .i64 nob, .int .i64 nsq, .slice S acc.length cS, .bool m.on, .bool m.good, .slice M m.row.length cm, .string (strOf l.par), .int .i64 l.ps, .int .i64 l.ov, .int .i64 ow, .int .i64 it, .int .i64 0] x4 acc S cS V6) := Lib.hid (E7.out.seth o k)
      have HO8 : Hid (Own V6 gr (.slice M m.row.length cm) m.row.length m.row) := Lib.hid (row_stay HO7.out E7.out.hd (by decide) o)
      clear k o q HO7 E7
      refine (E8.out.num Y5.out.1 Y5.out.2).mono ?_
      rintro e W8 ⟨rfl, d, o⟩
      have K8 := d.hd
      have E9 := Lib.hid d
      have HO9 : Hid (Own W8 gr (.slice M m.row.length cm) m.row.length m.row) := Lib.hid (by
        obtain ⟨cr, kr⟩ := E8.out.rdb
        exact row_stay HO8.out kr (by decide) o)
      clear d o E8 HO8
      go_wp2_with (have _h := K8; refine wpList_setq rfl 3 (.tmp 103) (.tmp 102) rfl gh 13 29 _ (.int .i64 tg) rfl rfl K8 (by simp) (by kernel_rfl) rfl ?_; clear _h K8; intro V8 k o q)
      have E10 : Hid (Dk w gr gr gh [.int .i64 nid, .int .i64 nsz, .int .i64 nob, .int .i64 nsq, .slice S acc.length cS, .bool m.on, .bool m.good, .slice M m.row.length cm, .string (strOf l.par), .int .i64 l.ps, .int .i64 l.ov, .int .i64 ow, .int .i64 it, .int .i64 tg] x5 acc S cS V8) := Lib.hid (E9.out.seth o k)
      have HO10 : Hid (Own V8 gr (.slice M m.row.length cm) m.row.length m.row) := Lib.hid (row_stay HO9.out E9.out.hd (by decide) o)
      clear k o q HO9 E9
      generalize V8 = WZ at *
      obtain ⟨A9, c9, kr9, hb9, -⟩ := E10.out.rd
      obtain ⟨bd, hbd⟩ : ∃ x, x = x5.bad := ⟨_, rfl⟩
      obtain ⟨rn, hrn⟩ : ∃ x, x = x5.bs.length := ⟨_, rfl⟩
      rw [← hbd, ← hrn] at kr9
      have HRD : Hid (∀ W, Below WZ.heap.size WZ W → Blk W gr 108 #[.slice A9 rn c9, .bool bd]) := Lib.hid fun W hW => kr9.of (hW.block _ kr9.lt)
      have HHD : Hid (∀ W, Below WZ.heap.size WZ W → Blk W gh 29 #[.int .i64 nid, .int .i64 nsz, .int .i64 nob, .int .i64 nsq, .slice S acc.length cS, .bool m.on, .bool m.good, .slice M m.row.length cm, .string (strOf l.par), .int .i64 l.ps, .int .i64 l.ov, .int .i64 ow, .int .i64 it, .int .i64 tg]) := Lib.hid fun W hW => E10.out.hd.of (hW.block _ E10.out.hd.lt)
      have hqd : (⟨nid, nob, nsq, S, cS, acc, ⟨nsz, m.on, m.good, m.row, M, cm, l.par, l.ps, l.ov⟩, ow, it, tg⟩ : HA).v = (⟨b, false⟩ : RD).ddv ∧ (⟨b, false⟩ : RD).ddTo = x5 := by
        obtain ⟨f1, f2⟩ := ddv_of HU1.out HU2.out HU3.out HU4.out HU5.out HN0.out HN1.out HN2.out HN3.out HN4.out HNN.out HL9.out Y1.out Y2.out Y3.out Y4.out Y5.out
        rw [HS0.out] at f1 f2
        exact ⟨f1.symm, f2⟩
      have hqS : (⟨nid, nob, nsq, S, cS, acc, ⟨nsz, m.on, m.good, m.row, M, cm, l.par, l.ps, l.ov⟩, ow, it, tg⟩ : HA).Sm := small_of (n := 20000) (by rw [hqd.1]; exact ddv_small ⟨b, false⟩ 20000 HNB.out) (by omega)
      have hpl : l.par.length ≤ 1000000 := by
        have h1 := bytes_ln x1
        have h2 : x1.bs.length ≤ s.bs.length := by rw [Y1.out.1]; exact mkTo_ln _
        have h3 := HR.out.2.2.2.2.ln
        have h4 : l.par = x1.bytes := by rw [Y2.out.2]; rfl
        rw [h4]; omega
      have hqR : ∀ W', Own W' gr (.slice M m.row.length cm) m.row.length m.row → (∀ x ∈ acc, x.N W' gr []) → W'.ownsRow gr 74 11 (.slice S acc.length cS) acc.length (acc.flatMap SA.dcells) → (⟨nid, nob, nsq, S, cS, acc, ⟨nsz, m.on, m.good, m.row, M, cm, l.par, l.ps, l.ov⟩, ow, it, tg⟩ : HA).R SA.dcells W' := by
        intro W' ho hsn how
        have hqN : (⟨nid, nob, nsq, S, cS, acc, ⟨nsz, m.on, m.good, m.row, M, cm, l.par, l.ps, l.ov⟩, ow, it, tg⟩ : HA).vw.N W' gr [] := ⟨ho, fun _ _ h => (by cases h), HML.out, HLL.out, (by show I64 nsz; rw [HN1.out]; exact num_range _), (by show I64 l.ps; rw [Y2.out.2]; exact num_range _), (by show I64 l.ov; rw [Y2.out.2]; exact num_range _), hpl⟩
        obtain ⟨-, g1, g2, -⟩ := own_shape how
        unfold maxLen at g2
        exact ⟨hqN.R, Reads.of_own how, fun x hx => (hsn x hx).R, (by show I64 nid; rw [HN0.out]; exact num_range _), (by show I64 nob; rw [HN2.out]; exact num_range _), (by show I64 nsq; rw [HN3.out]; exact num_range _), (by show I64 ow; rw [Y3.out.2]; exact num_range _), (by show I64 it; rw [Y4.out.2]; exact num_range _), (by show I64 tg; rw [Y5.out.2]; exact num_range _), (by show acc.length ≤ _; omega), g1⟩
      have hqZ := hqR WZ HO10.out E10.out.sn E10.out.own
      obtain ⟨BB, hBB⟩ : ∃ x, x = (⟨nid, nob, nsq, S, cS, acc, ⟨nsz, m.on, m.good, m.row, M, cm, l.par, l.ps, l.ov⟩, ow, it, tg⟩ : HA).v.B := ⟨_, rfl⟩
      obtain ⟨tx, htx⟩ : ∃ x, x = (⟨nid, nob, nsq, S, cS, acc, ⟨nsz, m.on, m.good, m.row, M, cm, l.par, l.ps, l.ov⟩, ow, it, tg⟩ : HA).v.put := ⟨_, rfl⟩
      obtain ⟨n9, hn9⟩ : ∃ x, x = tx.length := ⟨_, rfl⟩
      have HGD : Hid (∀ W, Below WZ.heap.size WZ W → Calls Try.prog 12 #[.agg #[.int .i64 nid, .int .i64 nsz, .int .i64 nob, .int .i64 nsq, .slice S acc.length cS, .bool m.on, .bool m.good, .slice M m.row.length cm, .string (strOf l.par), .int .i64 l.ps, .int .i64 l.ov, .int .i64 ow, .int .i64 it, .int .i64 tg]] W fun e w' => e = .returned (.bool BB) ∧ Below W.heap.size W w') := Lib.hid fun W hW => by rw [hBB]; exact dgoodhead_any (⟨nid, nob, nsq, S, cS, acc, ⟨nsz, m.on, m.good, m.row, M, cm, l.par, l.ps, l.ov⟩, ow, it, tg⟩ : HA) W (hqZ.since hW) hqS
      have HPT : Hid (BB = true → ∀ W, Below WZ.heap.size WZ W → Calls Try.prog 19 #[.agg #[.int .i64 nid, .int .i64 nsz, .int .i64 nob, .int .i64 nsq, .slice S acc.length cS, .bool m.on, .bool m.good, .slice M m.row.length cm, .string (strOf l.par), .int .i64 l.ps, .int .i64 l.ov, .int .i64 ow, .int .i64 it, .int .i64 tg]] W fun e w' => ∃ A8 c8, e = .returned (.slice A8 n9 c8) ∧ (∀ c', (convert 23 9 (.slice A8 n9 c')).run Try.prog w' = .ok (.string (strOf tx)) w') ∧ Below W.heap.size W w') := Lib.hid fun hb W hW => by
        have hB : (⟨nid, nob, nsq, S, cS, acc, ⟨nsz, m.on, m.good, m.row, M, cm, l.par, l.ps, l.ov⟩, ow, it, tg⟩ : HA).v.B = true := hBB ▸ hb
        refine (dputhead_any (⟨nid, nob, nsq, S, cS, acc, ⟨nsz, m.on, m.good, m.row, M, cm, l.par, l.ps, l.ov⟩, ow, it, tg⟩ : HA) W (hqZ.since hW) (rows_good hB).1 (rows_good hB).2 (by rw [hqd.1]; exact ddv_put_ln ⟨b, false⟩ HNB.out (hqd.1 ▸ hB)) hqS).mono fun e w' q => ?_
        obtain ⟨v, rfl, h1, h2⟩ := q
        rw [← htx, ← hn9] at h1
        obtain ⟨A8, c8, rfl⟩ := own_form h1
        exact ⟨A8, c8, rfl, fun c' => str_of (P := Try.prog) (h1.bytes (by rw [htx]; exact text_lt hqZ hB)) c' 23 9 5 Try.underlying23 Try.underlying5 Try.underlying9, h2⟩
      have HCB : Hid (∀ W, Below WZ.heap.size WZ W → (convert 23 9 (.slice A0 b.length c)).run Try.prog W = .ok (.string (strOf b)) W) := Lib.hid fun W hW => str_of (P := Try.prog) (HB.out.since (E10.out.bel.trans (hW.mono E10.out.bel.size))) c 23 9 5 Try.underlying23 Try.underlying5 Try.underlying9
      have HEQ : Hid (BB = true → ((strOf tx).toList == (strOf b).toList) = decide (tx = b)) := Lib.hid fun hb => str_eq (by rw [htx]; exact text_lt hqZ (hBB ▸ hb)) HSB.out
      have HDOK : Hid (DOk b ↔ bd = false ∧ rn = 0 ∧ BB = true ∧ tx = b) := Lib.hid (by
        unfold DOk
        rw [hqd.2, ← hqd.1, ← hbd, ← hBB, ← htx, hrn, List.length_eq_zero_iff])
      have HRS : Hid (∀ W, Below WZ.heap.size WZ W → Blk W w.heap.size 29 #[.int .i64 0, .int .i64 0, .int .i64 0, .int .i64 0, .slice none 0 0, .bool false, .bool false, .slice none 0 0, .string ⟨#[]⟩, .int .i64 0, .int .i64 0, .int .i64 0, .int .i64 0, .int .i64 0]) := Lib.hid fun W hW => E10.out.res.of (hW.block _ E10.out.res.lt)
      have HQ := Lib.hid (And.intro hqd.1 hqR)
      clear kr9 hb9 hbd hrn hqd hqS hpl hqR hqZ hBB htx hn9
      cases bd with
      | true =>
        as_aux_lemma =>
        have hS : Below WZ.heap.size WZ WZ.drew := (Below.refl _ WZ).drew
        go_upto_region 27 with (fail)
        refine any_beginL (fun W' => Below WZ.heap.size WZ W') 99 (by kernel_rfl) ?_
        refine S_take (i := 0) (v := .pointer (some ⟨gr, 0, none⟩)) rfl rfl (by kernel_rfl) (by kernel_rfl) (by kernel_rfl) (fun _ _ _ h => h) (Or.inl ⟨by rfl, fun W hw => by go_simp⟩) hS ?_
        simp only [Act.put, List.getElem_toArray, List.getElem_cons_succ, List.getElem_cons_zero, List.setIfInBounds_toArray, List.set_cons_zero, List.set_cons_succ]
        refine S_take (i := 1) (v := .pointer (some ⟨gr, 0, none⟩)) rfl rfl (by kernel_rfl) (by kernel_rfl) (by kernel_rfl) (fun _ _ _ h => h) (Or.inl ⟨by rfl, fun W hw => by go_simp⟩) hS ?_
        simp only [Act.put, List.getElem_toArray, List.getElem_cons_succ, List.getElem_cons_zero, List.setIfInBounds_toArray, List.set_cons_zero, List.set_cons_succ]
        refine S_take (i := 2) (v := .pointer (some ⟨gr, 1, none⟩)) rfl rfl (by kernel_rfl) (by kernel_rfl) (by kernel_rfl) (fun _ _ _ h => h) (Or.inl ⟨by rfl, fun W hw => by go_simp⟩) hS ?_
        simp only [Act.put, List.getElem_toArray, List.getElem_cons_succ, List.getElem_cons_zero, List.setIfInBounds_toArray, List.set_cons_zero, List.set_cons_succ]
        refine S_take (i := 3) (v := .bool true) rfl rfl (by kernel_rfl) (by kernel_rfl) (by kernel_rfl) (fun _ _ _ h => h) (Or.inl ⟨by rfl, fun W hw => by have k0 : W.cell? ⟨gr, 1, none⟩ = some (.bool true) := (HRD.out W hw).cell 1; go_simp⟩) hS ?_
        simp only [Act.put, List.getElem_toArray, List.getElem_cons_succ, List.getElem_cons_zero, List.setIfInBounds_toArray, List.set_cons_zero, List.set_cons_succ]
        refine S_take (i := 4) (v := .bool true) rfl rfl (by kernel_rfl) (by kernel_rfl) (by kernel_rfl) (fun _ _ _ h => h) (Or.inl ⟨by rfl, fun W hw => by go_simp⟩) hS ?_
        simp only [Act.put, List.getElem_toArray, List.getElem_cons_succ, List.getElem_cons_zero, List.setIfInBounds_toArray, List.set_cons_zero, List.set_cons_succ]
        refine S_take (i := 5) (v := undef) rfl rfl (by kernel_rfl) (by kernel_rfl) (by kernel_rfl) (fun _ _ _ h => h) (Or.inr ⟨by rfl, rfl⟩) hS ?_
        simp only [Act.put, List.getElem_toArray, List.getElem_cons_succ, List.getElem_cons_zero, List.setIfInBounds_toArray, List.set_cons_zero, List.set_cons_succ]
        refine S_take (i := 6) (v := undef) rfl rfl (by kernel_rfl) (by kernel_rfl) (by kernel_rfl) (fun _ _ _ h => h) (Or.inr ⟨by rfl, rfl⟩) hS ?_
        simp only [Act.put, List.getElem_toArray, List.getElem_cons_succ, List.getElem_cons_zero, List.setIfInBounds_toArray, List.set_cons_zero, List.set_cons_succ]
        refine S_take (i := 7) (v := undef) rfl rfl (by kernel_rfl) (by kernel_rfl) (by kernel_rfl) (fun _ _ _ h => h) (Or.inr ⟨by rfl, rfl⟩) hS ?_
        simp only [Act.put, List.getElem_toArray, List.getElem_cons_succ, List.getElem_cons_zero, List.setIfInBounds_toArray, List.set_cons_zero, List.set_cons_succ]
        refine S_take (i := 8) (v := undef) rfl rfl (by kernel_rfl) (by kernel_rfl) (by kernel_rfl) (fun _ _ _ h => h) (Or.inr ⟨by rfl, rfl⟩) hS ?_
        simp only [Act.put, List.getElem_toArray, List.getElem_cons_succ, List.getElem_cons_zero, List.setIfInBounds_toArray, List.set_cons_zero, List.set_cons_succ]
        refine S_take (i := 9) (v := undef) rfl rfl (by kernel_rfl) (by kernel_rfl) (by kernel_rfl) (fun _ _ _ h => h) (Or.inr ⟨by rfl, rfl⟩) hS ?_
        simp only [Act.put, List.getElem_toArray, List.getElem_cons_succ, List.getElem_cons_zero, List.setIfInBounds_toArray, List.set_cons_zero, List.set_cons_succ]
        refine S_take (i := 10) (v := undef) rfl rfl (by kernel_rfl) (by kernel_rfl) (by kernel_rfl) (fun _ _ _ h => h) (Or.inr ⟨by rfl, rfl⟩) hS ?_
        simp only [Act.put, List.getElem_toArray, List.getElem_cons_succ, List.getElem_cons_zero, List.setIfInBounds_toArray, List.set_cons_zero, List.set_cons_succ]
        refine S_take (i := 11) (v := .bool true) rfl rfl (by kernel_rfl) (by kernel_rfl) (by kernel_rfl) (fun _ _ _ h => h) (Or.inl ⟨by rfl, fun W hw => by go_simp⟩) hS ?_
        simp only [Act.put, List.getElem_toArray, List.getElem_cons_succ, List.getElem_cons_zero, List.setIfInBounds_toArray, List.set_cons_zero, List.set_cons_succ]
        refine S_take (i := 12) (v := .bool true) rfl rfl (by kernel_rfl) (by kernel_rfl) (by kernel_rfl) (fun _ _ _ h => h) (Or.inl ⟨by rfl, fun W hw => by go_simp⟩) hS ?_
        simp only [Act.put, List.getElem_toArray, List.getElem_cons_succ, List.getElem_cons_zero, List.setIfInBounds_toArray, List.set_cons_zero, List.set_cons_succ]
        refine S_take (i := 13) (v := undef) rfl rfl (by kernel_rfl) (by kernel_rfl) (by kernel_rfl) (fun _ _ _ h => h) (Or.inr ⟨by rfl, rfl⟩) hS ?_
        simp only [Act.put, List.getElem_toArray, List.getElem_cons_succ, List.getElem_cons_zero, List.setIfInBounds_toArray, List.set_cons_zero, List.set_cons_succ]
        refine S_take (i := 14) (v := undef) rfl rfl (by kernel_rfl) (by kernel_rfl) (by kernel_rfl) (fun _ _ _ h => h) (Or.inr ⟨by rfl, rfl⟩) hS ?_
        simp only [Act.put, List.getElem_toArray, List.getElem_cons_succ, List.getElem_cons_zero, List.setIfInBounds_toArray, List.set_cons_zero, List.set_cons_succ]
        refine S_take (i := 15) (v := undef) rfl rfl (by kernel_rfl) (by kernel_rfl) (by kernel_rfl) (fun _ _ _ h => h) (Or.inr ⟨by rfl, rfl⟩) hS ?_
        simp only [Act.put, List.getElem_toArray, List.getElem_cons_succ, List.getElem_cons_zero, List.setIfInBounds_toArray, List.set_cons_zero, List.set_cons_succ]
        refine S_take (i := 16) (v := .bool true) rfl rfl (by kernel_rfl) (by kernel_rfl) (by kernel_rfl) (fun _ _ _ h => h) (Or.inl ⟨by rfl, fun W hw => by go_simp⟩) hS ?_
        simp only [Act.put, List.getElem_toArray, List.getElem_cons_succ, List.getElem_cons_zero, List.setIfInBounds_toArray, List.set_cons_zero, List.set_cons_succ]
        refine S_take (i := 17) (v := .bool true) rfl rfl (by kernel_rfl) (by kernel_rfl) (by kernel_rfl) (fun _ _ _ h => h) (Or.inl ⟨by rfl, fun W hw => by go_simp⟩) hS ?_
        simp only [Act.put, List.getElem_toArray, List.getElem_cons_succ, List.getElem_cons_zero, List.setIfInBounds_toArray, List.set_cons_zero, List.set_cons_succ]
        refine S_take (i := 18) (v := undef) rfl rfl (by kernel_rfl) (by kernel_rfl) (by kernel_rfl) (fun _ _ _ h => h) (Or.inr ⟨by rfl, rfl⟩) hS ?_
        simp only [Act.put, List.getElem_toArray, List.getElem_cons_succ, List.getElem_cons_zero, List.setIfInBounds_toArray, List.set_cons_zero, List.set_cons_succ]
        refine S_take (i := 19) (v := undef) rfl rfl (by kernel_rfl) (by kernel_rfl) (by kernel_rfl) (fun _ _ _ h => h) (Or.inr ⟨by rfl, rfl⟩) hS ?_
        simp only [Act.put, List.getElem_toArray, List.getElem_cons_succ, List.getElem_cons_zero, List.setIfInBounds_toArray, List.set_cons_zero, List.set_cons_succ]
        refine S_take (i := 20) (v := undef) rfl rfl (by kernel_rfl) (by kernel_rfl) (by kernel_rfl) (fun _ _ _ h => h) (Or.inr ⟨by rfl, rfl⟩) hS ?_
        simp only [Act.put, List.getElem_toArray, List.getElem_cons_succ, List.getElem_cons_zero, List.setIfInBounds_toArray, List.set_cons_zero, List.set_cons_succ]
        refine S_take (i := 21) (v := undef) rfl rfl (by kernel_rfl) (by kernel_rfl) (by kernel_rfl) (fun _ _ _ h => h) (Or.inr ⟨by rfl, rfl⟩) hS ?_
        simp only [Act.put, List.getElem_toArray, List.getElem_cons_succ, List.getElem_cons_zero, List.setIfInBounds_toArray, List.set_cons_zero, List.set_cons_succ]
        refine S_take (i := 22) (v := undef) rfl rfl (by kernel_rfl) (by kernel_rfl) (by kernel_rfl) (fun _ _ _ h => h) (Or.inr ⟨by rfl, rfl⟩) hS ?_
        simp only [Act.put, List.getElem_toArray, List.getElem_cons_succ, List.getElem_cons_zero, List.setIfInBounds_toArray, List.set_cons_zero, List.set_cons_succ]
        refine S_take (i := 23) (v := undef) rfl rfl (by kernel_rfl) (by kernel_rfl) (by kernel_rfl) (fun _ _ _ h => h) (Or.inr ⟨by rfl, rfl⟩) hS ?_
        simp only [Act.put, List.getElem_toArray, List.getElem_cons_succ, List.getElem_cons_zero, List.setIfInBounds_toArray, List.set_cons_zero, List.set_cons_succ]
        refine S_take (i := 24) (v := .bool true) rfl rfl (by kernel_rfl) (by kernel_rfl) (by kernel_rfl) (fun _ _ _ h => h) (Or.inl ⟨by rfl, fun W hw => by go_simp⟩) hS ?_
        simp only [Act.put, List.getElem_toArray, List.getElem_cons_succ, List.getElem_cons_zero, List.setIfInBounds_toArray, List.set_cons_zero, List.set_cons_succ]
        refine L_done (by kernel_rfl) ?_
        refine NoPanic.normal ?_
        have HS9 := Lib.hid hS
        have KZ := HRS.out _ hS
        clear hS
        go_wp2_with (have _h := KZ; refine wpList_storeq rfl 29 (.tmp 2) (.tmp 129) rfl (w.heap.size) _ [.int .i64 0, .int .i64 0, .int .i64 0, .int .i64 0, .slice none 0 0, .bool false, .bool false, .slice none 0 0, .string ⟨#[]⟩, .int .i64 0, .int .i64 0, .int .i64 0, .int .i64 0, .int .i64 0] rfl rfl KZ (by simp) (by kernel_rfl) (one14 _ _ _ _ _ _ _ _ _ _ _ _ _ _ _ _ _ _) ?_; clear _h KZ; intro w9 K9 o9 s9)
        refine bodyPost_ret (results_cell_tmp9 rfl _ _ w.heap.size 29 _ (0, 0) _ _ rfl rfl K9 Try.underlying29 rfl (by kernel_rfl)) rfl ?_
        have hbz := E10.out.bel.trans (HS9.out.mono E10.out.bel.size)
        exact ⟨hbz.trans (o9.below (fun x hx => by simp at hx; omega) hbz.size), .inr ⟨fun h => (by have h1 := (HDOK.out.1 h).1; cases h1), rfl⟩⟩
      | false =>
        by_cases h0 : 0 < rn
        · have d0 : decide (0 < (rn : Int)) = true := decide_eq_true (by omega)
          have HP0 := Lib.hid h0
          clear h0
          as_aux_lemma =>
          have hS : Below WZ.heap.size WZ WZ.drew := (Below.refl _ WZ).drew
          go_upto_region 27 with (fail)
          refine any_beginL (fun W' => Below WZ.heap.size WZ W') 99 (by kernel_rfl) ?_
          refine S_take (i := 0) (v := .pointer (some ⟨gr, 0, none⟩)) rfl rfl (by kernel_rfl) (by kernel_rfl) (by kernel_rfl) (fun _ _ _ h => h) (Or.inl ⟨by rfl, fun W hw => by go_simp⟩) hS ?_
          simp only [Act.put, List.getElem_toArray, List.getElem_cons_succ, List.getElem_cons_zero, List.setIfInBounds_toArray, List.set_cons_zero, List.set_cons_succ]
          refine S_take (i := 1) (v := .pointer (some ⟨gr, 0, none⟩)) rfl rfl (by kernel_rfl) (by kernel_rfl) (by kernel_rfl) (fun _ _ _ h => h) (Or.inl ⟨by rfl, fun W hw => by go_simp⟩) hS ?_
          simp only [Act.put, List.getElem_toArray, List.getElem_cons_succ, List.getElem_cons_zero, List.setIfInBounds_toArray, List.set_cons_zero, List.set_cons_succ]
          refine S_take (i := 2) (v := .pointer (some ⟨gr, 1, none⟩)) rfl rfl (by kernel_rfl) (by kernel_rfl) (by kernel_rfl) (fun _ _ _ h => h) (Or.inl ⟨by rfl, fun W hw => by go_simp⟩) hS ?_
          simp only [Act.put, List.getElem_toArray, List.getElem_cons_succ, List.getElem_cons_zero, List.setIfInBounds_toArray, List.set_cons_zero, List.set_cons_succ]
          refine S_take (i := 3) (v := .bool false) rfl rfl (by kernel_rfl) (by kernel_rfl) (by kernel_rfl) (fun _ _ _ h => h) (Or.inl ⟨by rfl, fun W hw => by have k0 : W.cell? ⟨gr, 1, none⟩ = some (.bool false) := (HRD.out W hw).cell 1; go_simp⟩) hS ?_
          simp only [Act.put, List.getElem_toArray, List.getElem_cons_succ, List.getElem_cons_zero, List.setIfInBounds_toArray, List.set_cons_zero, List.set_cons_succ]
          refine S_take (i := 4) (v := .bool false) rfl rfl (by kernel_rfl) (by kernel_rfl) (by kernel_rfl) (fun _ _ _ h => h) (Or.inl ⟨by rfl, fun W hw => by go_simp⟩) hS ?_
          simp only [Act.put, List.getElem_toArray, List.getElem_cons_succ, List.getElem_cons_zero, List.setIfInBounds_toArray, List.set_cons_zero, List.set_cons_succ]
          refine S_take (i := 5) (v := .pointer (some ⟨gr, 0, none⟩)) rfl rfl (by kernel_rfl) (by kernel_rfl) (by kernel_rfl) (fun _ _ _ h => h) (Or.inl ⟨by rfl, fun W hw => by go_simp⟩) hS ?_
          simp only [Act.put, List.getElem_toArray, List.getElem_cons_succ, List.getElem_cons_zero, List.setIfInBounds_toArray, List.set_cons_zero, List.set_cons_succ]
          refine S_take (i := 6) (v := .pointer (some ⟨gr, 0, none⟩)) rfl rfl (by kernel_rfl) (by kernel_rfl) (by kernel_rfl) (fun _ _ _ h => h) (Or.inl ⟨by rfl, fun W hw => by go_simp⟩) hS ?_
          simp only [Act.put, List.getElem_toArray, List.getElem_cons_succ, List.getElem_cons_zero, List.setIfInBounds_toArray, List.set_cons_zero, List.set_cons_succ]
          refine S_take (i := 7) (v := .pointer (some ⟨gr, 0, none⟩)) rfl rfl (by kernel_rfl) (by kernel_rfl) (by kernel_rfl) (fun _ _ _ h => h) (Or.inl ⟨by rfl, fun W hw => by go_simp⟩) hS ?_
          simp only [Act.put, List.getElem_toArray, List.getElem_cons_succ, List.getElem_cons_zero, List.setIfInBounds_toArray, List.set_cons_zero, List.set_cons_succ]
          refine S_take (i := 8) (v := .slice A9 rn c9) rfl rfl (by kernel_rfl) (by kernel_rfl) (by kernel_rfl) (fun _ _ _ h => h) (Or.inl ⟨by rfl, fun W hw => by have k0 : W.cell? ⟨gr, 0, none⟩ = some (.slice A9 rn c9) := (HRD.out W hw).cell 0; go_simp⟩) hS ?_
          simp only [Act.put, List.getElem_toArray, List.getElem_cons_succ, List.getElem_cons_zero, List.setIfInBounds_toArray, List.set_cons_zero, List.set_cons_succ]
          refine S_take (i := 9) (v := .int .i64 (rn : Int)) rfl rfl (by kernel_rfl) (by kernel_rfl) (by kernel_rfl) (fun _ _ _ h => h) (Or.inl ⟨by rfl, fun W hw => by go_simp⟩) hS ?_
          simp only [Act.put, List.getElem_toArray, List.getElem_cons_succ, List.getElem_cons_zero, List.setIfInBounds_toArray, List.set_cons_zero, List.set_cons_succ]
          refine S_take (i := 10) (v := .bool true) rfl rfl (by kernel_rfl) (by kernel_rfl) (by kernel_rfl) (fun _ _ _ h => h) (Or.inl ⟨by rfl, fun W hw => by have k1 := HP0.out; first | (go_simp; done) | (go_simp; omega)⟩) hS ?_
          simp only [Act.put, List.getElem_toArray, List.getElem_cons_succ, List.getElem_cons_zero, List.setIfInBounds_toArray, List.set_cons_zero, List.set_cons_succ]
          refine S_take (i := 11) (v := .bool true) rfl rfl (by kernel_rfl) (by kernel_rfl) (by kernel_rfl) (fun _ _ _ h => h) (Or.inl ⟨by rfl, fun W hw => by go_simp⟩) hS ?_
          simp only [Act.put, List.getElem_toArray, List.getElem_cons_succ, List.getElem_cons_zero, List.setIfInBounds_toArray, List.set_cons_zero, List.set_cons_succ]
          refine S_take (i := 12) (v := .bool true) rfl rfl (by kernel_rfl) (by kernel_rfl) (by kernel_rfl) (fun _ _ _ h => h) (Or.inl ⟨by rfl, fun W hw => by go_simp⟩) hS ?_
          simp only [Act.put, List.getElem_toArray, List.getElem_cons_succ, List.getElem_cons_zero, List.setIfInBounds_toArray, List.set_cons_zero, List.set_cons_succ]
          refine S_take (i := 13) (v := undef) rfl rfl (by kernel_rfl) (by kernel_rfl) (by kernel_rfl) (fun _ _ _ h => h) (Or.inr ⟨by rfl, rfl⟩) hS ?_
          simp only [Act.put, List.getElem_toArray, List.getElem_cons_succ, List.getElem_cons_zero, List.setIfInBounds_toArray, List.set_cons_zero, List.set_cons_succ]
          refine S_take (i := 14) (v := undef) rfl rfl (by kernel_rfl) (by kernel_rfl) (by kernel_rfl) (fun _ _ _ h => h) (Or.inr ⟨by rfl, rfl⟩) hS ?_
          simp only [Act.put, List.getElem_toArray, List.getElem_cons_succ, List.getElem_cons_zero, List.setIfInBounds_toArray, List.set_cons_zero, List.set_cons_succ]
          refine S_take (i := 15) (v := undef) rfl rfl (by kernel_rfl) (by kernel_rfl) (by kernel_rfl) (fun _ _ _ h => h) (Or.inr ⟨by rfl, rfl⟩) hS ?_
          simp only [Act.put, List.getElem_toArray, List.getElem_cons_succ, List.getElem_cons_zero, List.setIfInBounds_toArray, List.set_cons_zero, List.set_cons_succ]
          refine S_take (i := 16) (v := .bool true) rfl rfl (by kernel_rfl) (by kernel_rfl) (by kernel_rfl) (fun _ _ _ h => h) (Or.inl ⟨by rfl, fun W hw => by go_simp⟩) hS ?_
          simp only [Act.put, List.getElem_toArray, List.getElem_cons_succ, List.getElem_cons_zero, List.setIfInBounds_toArray, List.set_cons_zero, List.set_cons_succ]
          refine S_take (i := 17) (v := .bool true) rfl rfl (by kernel_rfl) (by kernel_rfl) (by kernel_rfl) (fun _ _ _ h => h) (Or.inl ⟨by rfl, fun W hw => by go_simp⟩) hS ?_
          simp only [Act.put, List.getElem_toArray, List.getElem_cons_succ, List.getElem_cons_zero, List.setIfInBounds_toArray, List.set_cons_zero, List.set_cons_succ]
          refine S_take (i := 18) (v := undef) rfl rfl (by kernel_rfl) (by kernel_rfl) (by kernel_rfl) (fun _ _ _ h => h) (Or.inr ⟨by rfl, rfl⟩) hS ?_
          simp only [Act.put, List.getElem_toArray, List.getElem_cons_succ, List.getElem_cons_zero, List.setIfInBounds_toArray, List.set_cons_zero, List.set_cons_succ]
          refine S_take (i := 19) (v := undef) rfl rfl (by kernel_rfl) (by kernel_rfl) (by kernel_rfl) (fun _ _ _ h => h) (Or.inr ⟨by rfl, rfl⟩) hS ?_
          simp only [Act.put, List.getElem_toArray, List.getElem_cons_succ, List.getElem_cons_zero, List.setIfInBounds_toArray, List.set_cons_zero, List.set_cons_succ]
          refine S_take (i := 20) (v := undef) rfl rfl (by kernel_rfl) (by kernel_rfl) (by kernel_rfl) (fun _ _ _ h => h) (Or.inr ⟨by rfl, rfl⟩) hS ?_
          simp only [Act.put, List.getElem_toArray, List.getElem_cons_succ, List.getElem_cons_zero, List.setIfInBounds_toArray, List.set_cons_zero, List.set_cons_succ]
          refine S_take (i := 21) (v := undef) rfl rfl (by kernel_rfl) (by kernel_rfl) (by kernel_rfl) (fun _ _ _ h => h) (Or.inr ⟨by rfl, rfl⟩) hS ?_
          simp only [Act.put, List.getElem_toArray, List.getElem_cons_succ, List.getElem_cons_zero, List.setIfInBounds_toArray, List.set_cons_zero, List.set_cons_succ]
          refine S_take (i := 22) (v := undef) rfl rfl (by kernel_rfl) (by kernel_rfl) (by kernel_rfl) (fun _ _ _ h => h) (Or.inr ⟨by rfl, rfl⟩) hS ?_
          simp only [Act.put, List.getElem_toArray, List.getElem_cons_succ, List.getElem_cons_zero, List.setIfInBounds_toArray, List.set_cons_zero, List.set_cons_succ]
          refine S_take (i := 23) (v := undef) rfl rfl (by kernel_rfl) (by kernel_rfl) (by kernel_rfl) (fun _ _ _ h => h) (Or.inr ⟨by rfl, rfl⟩) hS ?_
          simp only [Act.put, List.getElem_toArray, List.getElem_cons_succ, List.getElem_cons_zero, List.setIfInBounds_toArray, List.set_cons_zero, List.set_cons_succ]
          refine S_take (i := 24) (v := .bool true) rfl rfl (by kernel_rfl) (by kernel_rfl) (by kernel_rfl) (fun _ _ _ h => h) (Or.inl ⟨by rfl, fun W hw => by go_simp⟩) hS ?_
          simp only [Act.put, List.getElem_toArray, List.getElem_cons_succ, List.getElem_cons_zero, List.setIfInBounds_toArray, List.set_cons_zero, List.set_cons_succ]
          refine L_done (by kernel_rfl) ?_
          refine NoPanic.normal ?_
          have HS9 := Lib.hid hS
          have KZ := HRS.out _ hS
          clear hS
          go_wp2_with (have _h := KZ; refine wpList_storeq rfl 29 (.tmp 2) (.tmp 129) rfl (w.heap.size) _ [.int .i64 0, .int .i64 0, .int .i64 0, .int .i64 0, .slice none 0 0, .bool false, .bool false, .slice none 0 0, .string ⟨#[]⟩, .int .i64 0, .int .i64 0, .int .i64 0, .int .i64 0, .int .i64 0] rfl rfl KZ (by simp) (by kernel_rfl) (one14 _ _ _ _ _ _ _ _ _ _ _ _ _ _ _ _ _ _) ?_; clear _h KZ; intro w9 K9 o9 s9)
          refine bodyPost_ret (results_cell_tmp9 rfl _ _ w.heap.size 29 _ (0, 0) _ _ rfl rfl K9 Try.underlying29 rfl (by kernel_rfl)) rfl ?_
          have hbz := E10.out.bel.trans (HS9.out.mono E10.out.bel.size)
          exact ⟨hbz.trans (o9.below (fun x hx => by simp at hx; omega) hbz.size), .inr ⟨fun h => (by have h1 := (HDOK.out.1 h).2.1; have h2 := HP0.out; omega), rfl⟩⟩
        have d0 : decide (0 < (rn : Int)) = false := decide_eq_false (by omega)
        have HP0 := Lib.hid h0
        clear h0
        cases BB with
        | false =>
          as_aux_lemma =>
          have hS : Below WZ.heap.size WZ WZ.drew := (Below.refl _ WZ).drew
          go_upto_region 27 with (fail)
          refine any_beginL (fun W' => Below WZ.heap.size WZ W') 99 (by kernel_rfl) ?_
          refine S_take (i := 0) (v := .pointer (some ⟨gr, 0, none⟩)) rfl rfl (by kernel_rfl) (by kernel_rfl) (by kernel_rfl) (fun _ _ _ h => h) (Or.inl ⟨by rfl, fun W hw => by go_simp⟩) hS ?_
          simp only [Act.put, List.getElem_toArray, List.getElem_cons_succ, List.getElem_cons_zero, List.setIfInBounds_toArray, List.set_cons_zero, List.set_cons_succ]
          refine S_take (i := 1) (v := .pointer (some ⟨gr, 0, none⟩)) rfl rfl (by kernel_rfl) (by kernel_rfl) (by kernel_rfl) (fun _ _ _ h => h) (Or.inl ⟨by rfl, fun W hw => by go_simp⟩) hS ?_
          simp only [Act.put, List.getElem_toArray, List.getElem_cons_succ, List.getElem_cons_zero, List.setIfInBounds_toArray, List.set_cons_zero, List.set_cons_succ]
          refine S_take (i := 2) (v := .pointer (some ⟨gr, 1, none⟩)) rfl rfl (by kernel_rfl) (by kernel_rfl) (by kernel_rfl) (fun _ _ _ h => h) (Or.inl ⟨by rfl, fun W hw => by go_simp⟩) hS ?_
          simp only [Act.put, List.getElem_toArray, List.getElem_cons_succ, List.getElem_cons_zero, List.setIfInBounds_toArray, List.set_cons_zero, List.set_cons_succ]
          refine S_take (i := 3) (v := .bool false) rfl rfl (by kernel_rfl) (by kernel_rfl) (by kernel_rfl) (fun _ _ _ h => h) (Or.inl ⟨by rfl, fun W hw => by have k0 : W.cell? ⟨gr, 1, none⟩ = some (.bool false) := (HRD.out W hw).cell 1; go_simp⟩) hS ?_
          simp only [Act.put, List.getElem_toArray, List.getElem_cons_succ, List.getElem_cons_zero, List.setIfInBounds_toArray, List.set_cons_zero, List.set_cons_succ]
          refine S_take (i := 4) (v := .bool false) rfl rfl (by kernel_rfl) (by kernel_rfl) (by kernel_rfl) (fun _ _ _ h => h) (Or.inl ⟨by rfl, fun W hw => by go_simp⟩) hS ?_
          simp only [Act.put, List.getElem_toArray, List.getElem_cons_succ, List.getElem_cons_zero, List.setIfInBounds_toArray, List.set_cons_zero, List.set_cons_succ]
          refine S_take (i := 5) (v := .pointer (some ⟨gr, 0, none⟩)) rfl rfl (by kernel_rfl) (by kernel_rfl) (by kernel_rfl) (fun _ _ _ h => h) (Or.inl ⟨by rfl, fun W hw => by go_simp⟩) hS ?_
          simp only [Act.put, List.getElem_toArray, List.getElem_cons_succ, List.getElem_cons_zero, List.setIfInBounds_toArray, List.set_cons_zero, List.set_cons_succ]
          refine S_take (i := 6) (v := .pointer (some ⟨gr, 0, none⟩)) rfl rfl (by kernel_rfl) (by kernel_rfl) (by kernel_rfl) (fun _ _ _ h => h) (Or.inl ⟨by rfl, fun W hw => by go_simp⟩) hS ?_
          simp only [Act.put, List.getElem_toArray, List.getElem_cons_succ, List.getElem_cons_zero, List.setIfInBounds_toArray, List.set_cons_zero, List.set_cons_succ]
          refine S_take (i := 7) (v := .pointer (some ⟨gr, 0, none⟩)) rfl rfl (by kernel_rfl) (by kernel_rfl) (by kernel_rfl) (fun _ _ _ h => h) (Or.inl ⟨by rfl, fun W hw => by go_simp⟩) hS ?_
          simp only [Act.put, List.getElem_toArray, List.getElem_cons_succ, List.getElem_cons_zero, List.setIfInBounds_toArray, List.set_cons_zero, List.set_cons_succ]
          refine S_take (i := 8) (v := .slice A9 rn c9) rfl rfl (by kernel_rfl) (by kernel_rfl) (by kernel_rfl) (fun _ _ _ h => h) (Or.inl ⟨by rfl, fun W hw => by have k0 : W.cell? ⟨gr, 0, none⟩ = some (.slice A9 rn c9) := (HRD.out W hw).cell 0; go_simp⟩) hS ?_
          simp only [Act.put, List.getElem_toArray, List.getElem_cons_succ, List.getElem_cons_zero, List.setIfInBounds_toArray, List.set_cons_zero, List.set_cons_succ]
          refine S_take (i := 9) (v := .int .i64 (rn : Int)) rfl rfl (by kernel_rfl) (by kernel_rfl) (by kernel_rfl) (fun _ _ _ h => h) (Or.inl ⟨by rfl, fun W hw => by go_simp⟩) hS ?_
          simp only [Act.put, List.getElem_toArray, List.getElem_cons_succ, List.getElem_cons_zero, List.setIfInBounds_toArray, List.set_cons_zero, List.set_cons_succ]
          refine S_take (i := 10) (v := .bool false) rfl rfl (by kernel_rfl) (by kernel_rfl) (by kernel_rfl) (fun _ _ _ h => h) (Or.inl ⟨by rfl, fun W hw => by have k1 := HP0.out; first | (go_simp; done) | (go_simp; omega)⟩) hS ?_
          simp only [Act.put, List.getElem_toArray, List.getElem_cons_succ, List.getElem_cons_zero, List.setIfInBounds_toArray, List.set_cons_zero, List.set_cons_succ]
          refine S_take (i := 11) (v := .bool false) rfl rfl (by kernel_rfl) (by kernel_rfl) (by kernel_rfl) (fun _ _ _ h => h) (Or.inl ⟨by rfl, fun W hw => by go_simp⟩) hS ?_
          simp only [Act.put, List.getElem_toArray, List.getElem_cons_succ, List.getElem_cons_zero, List.setIfInBounds_toArray, List.set_cons_zero, List.set_cons_succ]
          refine S_take (i := 12) (v := .bool false) rfl rfl (by kernel_rfl) (by kernel_rfl) (by kernel_rfl) (fun _ _ _ h => h) (Or.inl ⟨by rfl, fun W hw => by go_simp⟩) hS ?_
          simp only [Act.put, List.getElem_toArray, List.getElem_cons_succ, List.getElem_cons_zero, List.setIfInBounds_toArray, List.set_cons_zero, List.set_cons_succ]
          refine S_take (i := 13) (v := .agg #[.int .i64 nid, .int .i64 nsz, .int .i64 nob, .int .i64 nsq, .slice S acc.length cS, .bool m.on, .bool m.good, .slice M m.row.length cm, .string (strOf l.par), .int .i64 l.ps, .int .i64 l.ov, .int .i64 ow, .int .i64 it, .int .i64 tg]) rfl rfl (by kernel_rfl) (by kernel_rfl) (by kernel_rfl) (fun _ _ _ h => h) (Or.inl ⟨by rfl, fun W hw => by have k0 : W.cell? ⟨gh, 0, none⟩ = some (.int .i64 nid) := (HHD.out W hw).cell 0; have k1 : W.cell? ⟨gh, 1, none⟩ = some (.int .i64 nsz) := (HHD.out W hw).cell 1; have k2 : W.cell? ⟨gh, 2, none⟩ = some (.int .i64 nob) := (HHD.out W hw).cell 2; have k3 : W.cell? ⟨gh, 3, none⟩ = some (.int .i64 nsq) := (HHD.out W hw).cell 3; have k4 : W.cell? ⟨gh, 4, none⟩ = some (.slice S acc.length cS) := (HHD.out W hw).cell 4; have k5 : W.cell? ⟨gh, 5, none⟩ = some (.bool m.on) := (HHD.out W hw).cell 5; have k6 : W.cell? ⟨gh, 6, none⟩ = some (.bool m.good) := (HHD.out W hw).cell 6; have k7 : W.cell? ⟨gh, 7, none⟩ = some (.slice M m.row.length cm) := (HHD.out W hw).cell 7; have k8 : W.cell? ⟨gh, 8, none⟩ = some (.string (strOf l.par)) := (HHD.out W hw).cell 8; have k9 : W.cell? ⟨gh, 9, none⟩ = some (.int .i64 l.ps) := (HHD.out W hw).cell 9; have k10 : W.cell? ⟨gh, 10, none⟩ = some (.int .i64 l.ov) := (HHD.out W hw).cell 10; have k11 : W.cell? ⟨gh, 11, none⟩ = some (.int .i64 ow) := (HHD.out W hw).cell 11; have k12 : W.cell? ⟨gh, 12, none⟩ = some (.int .i64 it) := (HHD.out W hw).cell 12; have k13 : W.cell? ⟨gh, 13, none⟩ = some (.int .i64 tg) := (HHD.out W hw).cell 13; go_simp⟩) hS ?_
          simp only [Act.put, List.getElem_toArray, List.getElem_cons_succ, List.getElem_cons_zero, List.setIfInBounds_toArray, List.set_cons_zero, List.set_cons_succ]
          refine L_one (j := 14) (by kernel_rfl) rfl (by rfl) ?_
          simp only [Act.put, List.getElem_toArray, List.getElem_cons_succ, List.getElem_cons_zero, List.setIfInBounds_toArray, List.set_cons_zero, List.set_cons_succ]
          refine wp_called (by go_simp) (HGD.out _ hS) ?_
          rintro e W14 ⟨rfl, b⟩
          have hS : Below WZ.heap.size WZ W14 := hS.trans (b.mono hS.size)
          clear b
          refine ⟨_, rfl, hS, ?_⟩
          simp only [Act.put, List.getElem_toArray, List.getElem_cons_succ, List.getElem_cons_zero, List.setIfInBounds_toArray, List.set_cons_zero, List.set_cons_succ]
          refine S_take (i := 15) (v := .bool true) rfl rfl (by kernel_rfl) (by kernel_rfl) (by kernel_rfl) (fun _ _ _ h => h) (Or.inl ⟨by rfl, fun W hw => by go_simp⟩) hS ?_
          simp only [Act.put, List.getElem_toArray, List.getElem_cons_succ, List.getElem_cons_zero, List.setIfInBounds_toArray, List.set_cons_zero, List.set_cons_succ]
          refine S_take (i := 16) (v := .bool true) rfl rfl (by kernel_rfl) (by kernel_rfl) (by kernel_rfl) (fun _ _ _ h => h) (Or.inl ⟨by rfl, fun W hw => by go_simp⟩) hS ?_
          simp only [Act.put, List.getElem_toArray, List.getElem_cons_succ, List.getElem_cons_zero, List.setIfInBounds_toArray, List.set_cons_zero, List.set_cons_succ]
          refine S_take (i := 17) (v := .bool true) rfl rfl (by kernel_rfl) (by kernel_rfl) (by kernel_rfl) (fun _ _ _ h => h) (Or.inl ⟨by rfl, fun W hw => by go_simp⟩) hS ?_
          simp only [Act.put, List.getElem_toArray, List.getElem_cons_succ, List.getElem_cons_zero, List.setIfInBounds_toArray, List.set_cons_zero, List.set_cons_succ]
          refine S_take (i := 18) (v := undef) rfl rfl (by kernel_rfl) (by kernel_rfl) (by kernel_rfl) (fun _ _ _ h => h) (Or.inr ⟨by rfl, rfl⟩) hS ?_
          simp only [Act.put, List.getElem_toArray, List.getElem_cons_succ, List.getElem_cons_zero, List.setIfInBounds_toArray, List.set_cons_zero, List.set_cons_succ]
          refine S_take (i := 19) (v := undef) rfl rfl (by kernel_rfl) (by kernel_rfl) (by kernel_rfl) (fun _ _ _ h => h) (Or.inr ⟨by rfl, rfl⟩) hS ?_
          simp only [Act.put, List.getElem_toArray, List.getElem_cons_succ, List.getElem_cons_zero, List.setIfInBounds_toArray, List.set_cons_zero, List.set_cons_succ]
          refine S_take (i := 20) (v := undef) rfl rfl (by kernel_rfl) (by kernel_rfl) (by kernel_rfl) (fun _ _ _ h => h) (Or.inr ⟨by rfl, rfl⟩) hS ?_
          simp only [Act.put, List.getElem_toArray, List.getElem_cons_succ, List.getElem_cons_zero, List.setIfInBounds_toArray, List.set_cons_zero, List.set_cons_succ]
          refine S_take (i := 21) (v := undef) rfl rfl (by kernel_rfl) (by kernel_rfl) (by kernel_rfl) (fun _ _ _ h => h) (Or.inr ⟨by rfl, rfl⟩) hS ?_
          simp only [Act.put, List.getElem_toArray, List.getElem_cons_succ, List.getElem_cons_zero, List.setIfInBounds_toArray, List.set_cons_zero, List.set_cons_succ]
          refine S_take (i := 22) (v := undef) rfl rfl (by kernel_rfl) (by kernel_rfl) (by kernel_rfl) (fun _ _ _ h => h) (Or.inr ⟨by rfl, rfl⟩) hS ?_
          simp only [Act.put, List.getElem_toArray, List.getElem_cons_succ, List.getElem_cons_zero, List.setIfInBounds_toArray, List.set_cons_zero, List.set_cons_succ]
          refine S_take (i := 23) (v := undef) rfl rfl (by kernel_rfl) (by kernel_rfl) (by kernel_rfl) (fun _ _ _ h => h) (Or.inr ⟨by rfl, rfl⟩) hS ?_
          simp only [Act.put, List.getElem_toArray, List.getElem_cons_succ, List.getElem_cons_zero, List.setIfInBounds_toArray, List.set_cons_zero, List.set_cons_succ]
          refine S_take (i := 24) (v := .bool true) rfl rfl (by kernel_rfl) (by kernel_rfl) (by kernel_rfl) (fun _ _ _ h => h) (Or.inl ⟨by rfl, fun W hw => by go_simp⟩) hS ?_
          simp only [Act.put, List.getElem_toArray, List.getElem_cons_succ, List.getElem_cons_zero, List.setIfInBounds_toArray, List.set_cons_zero, List.set_cons_succ]
          refine L_done (by kernel_rfl) ?_
          refine NoPanic.normal ?_
          have HS9 := Lib.hid hS
          have KZ := HRS.out _ hS
          clear hS
          go_wp2_with (have _h := KZ; refine wpList_storeq rfl 29 (.tmp 2) (.tmp 129) rfl (w.heap.size) _ [.int .i64 0, .int .i64 0, .int .i64 0, .int .i64 0, .slice none 0 0, .bool false, .bool false, .slice none 0 0, .string ⟨#[]⟩, .int .i64 0, .int .i64 0, .int .i64 0, .int .i64 0, .int .i64 0] rfl rfl KZ (by simp) (by kernel_rfl) (one14 _ _ _ _ _ _ _ _ _ _ _ _ _ _ _ _ _ _) ?_; clear _h KZ; intro w9 K9 o9 s9)
          refine bodyPost_ret (results_cell_tmp9 rfl _ _ w.heap.size 29 _ (0, 0) _ _ rfl rfl K9 Try.underlying29 rfl (by kernel_rfl)) rfl ?_
          have hbz := E10.out.bel.trans (HS9.out.mono E10.out.bel.size)
          exact ⟨hbz.trans (o9.below (fun x hx => by simp at hx; omega) hbz.size), .inr ⟨fun h => (by have h1 := (HDOK.out.1 h).2.2.1; cases h1), rfl⟩⟩
        | true =>
          by_cases heq : tx = b
          · have HEQ9 : Hid (((strOf tx).toList == (strOf b).toList) = true) := Lib.hid ((HEQ.out (by trivial)).trans (decide_eq_true heq))
            have HTE := Lib.hid heq
            clear heq
            as_aux_lemma =>
            have hS : Below WZ.heap.size WZ WZ.drew := (Below.refl _ WZ).drew
            go_upto_region 27 with (fail)
            refine any_beginL (fun W' => Below WZ.heap.size WZ W') 99 (by kernel_rfl) ?_
            refine S_take (i := 0) (v := .pointer (some ⟨gr, 0, none⟩)) rfl rfl (by kernel_rfl) (by kernel_rfl) (by kernel_rfl) (fun _ _ _ h => h) (Or.inl ⟨by rfl, fun W hw => by go_simp⟩) hS ?_
            simp only [Act.put, List.getElem_toArray, List.getElem_cons_succ, List.getElem_cons_zero, List.setIfInBounds_toArray, List.set_cons_zero, List.set_cons_succ]
            refine S_take (i := 1) (v := .pointer (some ⟨gr, 0, none⟩)) rfl rfl (by kernel_rfl) (by kernel_rfl) (by kernel_rfl) (fun _ _ _ h => h) (Or.inl ⟨by rfl, fun W hw => by go_simp⟩) hS ?_
            simp only [Act.put, List.getElem_toArray, List.getElem_cons_succ, List.getElem_cons_zero, List.setIfInBounds_toArray, List.set_cons_zero, List.set_cons_succ]
            refine S_take (i := 2) (v := .pointer (some ⟨gr, 1, none⟩)) rfl rfl (by kernel_rfl) (by kernel_rfl) (by kernel_rfl) (fun _ _ _ h => h) (Or.inl ⟨by rfl, fun W hw => by go_simp⟩) hS ?_
            simp only [Act.put, List.getElem_toArray, List.getElem_cons_succ, List.getElem_cons_zero, List.setIfInBounds_toArray, List.set_cons_zero, List.set_cons_succ]
            refine S_take (i := 3) (v := .bool false) rfl rfl (by kernel_rfl) (by kernel_rfl) (by kernel_rfl) (fun _ _ _ h => h) (Or.inl ⟨by rfl, fun W hw => by have k0 : W.cell? ⟨gr, 1, none⟩ = some (.bool false) := (HRD.out W hw).cell 1; go_simp⟩) hS ?_
            simp only [Act.put, List.getElem_toArray, List.getElem_cons_succ, List.getElem_cons_zero, List.setIfInBounds_toArray, List.set_cons_zero, List.set_cons_succ]
            refine S_take (i := 4) (v := .bool false) rfl rfl (by kernel_rfl) (by kernel_rfl) (by kernel_rfl) (fun _ _ _ h => h) (Or.inl ⟨by rfl, fun W hw => by go_simp⟩) hS ?_
            simp only [Act.put, List.getElem_toArray, List.getElem_cons_succ, List.getElem_cons_zero, List.setIfInBounds_toArray, List.set_cons_zero, List.set_cons_succ]
            refine S_take (i := 5) (v := .pointer (some ⟨gr, 0, none⟩)) rfl rfl (by kernel_rfl) (by kernel_rfl) (by kernel_rfl) (fun _ _ _ h => h) (Or.inl ⟨by rfl, fun W hw => by go_simp⟩) hS ?_
            simp only [Act.put, List.getElem_toArray, List.getElem_cons_succ, List.getElem_cons_zero, List.setIfInBounds_toArray, List.set_cons_zero, List.set_cons_succ]
            refine S_take (i := 6) (v := .pointer (some ⟨gr, 0, none⟩)) rfl rfl (by kernel_rfl) (by kernel_rfl) (by kernel_rfl) (fun _ _ _ h => h) (Or.inl ⟨by rfl, fun W hw => by go_simp⟩) hS ?_
            simp only [Act.put, List.getElem_toArray, List.getElem_cons_succ, List.getElem_cons_zero, List.setIfInBounds_toArray, List.set_cons_zero, List.set_cons_succ]
            refine S_take (i := 7) (v := .pointer (some ⟨gr, 0, none⟩)) rfl rfl (by kernel_rfl) (by kernel_rfl) (by kernel_rfl) (fun _ _ _ h => h) (Or.inl ⟨by rfl, fun W hw => by go_simp⟩) hS ?_
            simp only [Act.put, List.getElem_toArray, List.getElem_cons_succ, List.getElem_cons_zero, List.setIfInBounds_toArray, List.set_cons_zero, List.set_cons_succ]
            refine S_take (i := 8) (v := .slice A9 rn c9) rfl rfl (by kernel_rfl) (by kernel_rfl) (by kernel_rfl) (fun _ _ _ h => h) (Or.inl ⟨by rfl, fun W hw => by have k0 : W.cell? ⟨gr, 0, none⟩ = some (.slice A9 rn c9) := (HRD.out W hw).cell 0; go_simp⟩) hS ?_
            simp only [Act.put, List.getElem_toArray, List.getElem_cons_succ, List.getElem_cons_zero, List.setIfInBounds_toArray, List.set_cons_zero, List.set_cons_succ]
            refine S_take (i := 9) (v := .int .i64 (rn : Int)) rfl rfl (by kernel_rfl) (by kernel_rfl) (by kernel_rfl) (fun _ _ _ h => h) (Or.inl ⟨by rfl, fun W hw => by go_simp⟩) hS ?_
            simp only [Act.put, List.getElem_toArray, List.getElem_cons_succ, List.getElem_cons_zero, List.setIfInBounds_toArray, List.set_cons_zero, List.set_cons_succ]
            refine S_take (i := 10) (v := .bool false) rfl rfl (by kernel_rfl) (by kernel_rfl) (by kernel_rfl) (fun _ _ _ h => h) (Or.inl ⟨by rfl, fun W hw => by have k1 := HP0.out; first | (go_simp; done) | (go_simp; omega)⟩) hS ?_
            simp only [Act.put, List.getElem_toArray, List.getElem_cons_succ, List.getElem_cons_zero, List.setIfInBounds_toArray, List.set_cons_zero, List.set_cons_succ]
            refine S_take (i := 11) (v := .bool false) rfl rfl (by kernel_rfl) (by kernel_rfl) (by kernel_rfl) (fun _ _ _ h => h) (Or.inl ⟨by rfl, fun W hw => by go_simp⟩) hS ?_
            simp only [Act.put, List.getElem_toArray, List.getElem_cons_succ, List.getElem_cons_zero, List.setIfInBounds_toArray, List.set_cons_zero, List.set_cons_succ]
            refine S_take (i := 12) (v := .bool false) rfl rfl (by kernel_rfl) (by kernel_rfl) (by kernel_rfl) (fun _ _ _ h => h) (Or.inl ⟨by rfl, fun W hw => by go_simp⟩) hS ?_
            simp only [Act.put, List.getElem_toArray, List.getElem_cons_succ, List.getElem_cons_zero, List.setIfInBounds_toArray, List.set_cons_zero, List.set_cons_succ]
            refine S_take (i := 13) (v := .agg #[.int .i64 nid, .int .i64 nsz, .int .i64 nob, .int .i64 nsq, .slice S acc.length cS, .bool m.on, .bool m.good, .slice M m.row.length cm, .string (strOf l.par), .int .i64 l.ps, .int .i64 l.ov, .int .i64 ow, .int .i64 it, .int .i64 tg]) rfl rfl (by kernel_rfl) (by kernel_rfl) (by kernel_rfl) (fun _ _ _ h => h) (Or.inl ⟨by rfl, fun W hw => by have k0 : W.cell? ⟨gh, 0, none⟩ = some (.int .i64 nid) := (HHD.out W hw).cell 0; have k1 : W.cell? ⟨gh, 1, none⟩ = some (.int .i64 nsz) := (HHD.out W hw).cell 1; have k2 : W.cell? ⟨gh, 2, none⟩ = some (.int .i64 nob) := (HHD.out W hw).cell 2; have k3 : W.cell? ⟨gh, 3, none⟩ = some (.int .i64 nsq) := (HHD.out W hw).cell 3; have k4 : W.cell? ⟨gh, 4, none⟩ = some (.slice S acc.length cS) := (HHD.out W hw).cell 4; have k5 : W.cell? ⟨gh, 5, none⟩ = some (.bool m.on) := (HHD.out W hw).cell 5; have k6 : W.cell? ⟨gh, 6, none⟩ = some (.bool m.good) := (HHD.out W hw).cell 6; have k7 : W.cell? ⟨gh, 7, none⟩ = some (.slice M m.row.length cm) := (HHD.out W hw).cell 7; have k8 : W.cell? ⟨gh, 8, none⟩ = some (.string (strOf l.par)) := (HHD.out W hw).cell 8; have k9 : W.cell? ⟨gh, 9, none⟩ = some (.int .i64 l.ps) := (HHD.out W hw).cell 9; have k10 : W.cell? ⟨gh, 10, none⟩ = some (.int .i64 l.ov) := (HHD.out W hw).cell 10; have k11 : W.cell? ⟨gh, 11, none⟩ = some (.int .i64 ow) := (HHD.out W hw).cell 11; have k12 : W.cell? ⟨gh, 12, none⟩ = some (.int .i64 it) := (HHD.out W hw).cell 12; have k13 : W.cell? ⟨gh, 13, none⟩ = some (.int .i64 tg) := (HHD.out W hw).cell 13; go_simp⟩) hS ?_
            simp only [Act.put, List.getElem_toArray, List.getElem_cons_succ, List.getElem_cons_zero, List.setIfInBounds_toArray, List.set_cons_zero, List.set_cons_succ]
            refine L_one (j := 14) (by kernel_rfl) rfl (by rfl) ?_
            simp only [Act.put, List.getElem_toArray, List.getElem_cons_succ, List.getElem_cons_zero, List.setIfInBounds_toArray, List.set_cons_zero, List.set_cons_succ]
            refine wp_called (by go_simp) (HGD.out _ hS) ?_
            rintro e W14 ⟨rfl, b⟩
            have hS : Below WZ.heap.size WZ W14 := hS.trans (b.mono hS.size)
            clear b
            refine ⟨_, rfl, hS, ?_⟩
            simp only [Act.put, List.getElem_toArray, List.getElem_cons_succ, List.getElem_cons_zero, List.setIfInBounds_toArray, List.set_cons_zero, List.set_cons_succ]
            refine S_take (i := 15) (v := .bool false) rfl rfl (by kernel_rfl) (by kernel_rfl) (by kernel_rfl) (fun _ _ _ h => h) (Or.inl ⟨by rfl, fun W hw => by go_simp⟩) hS ?_
            simp only [Act.put, List.getElem_toArray, List.getElem_cons_succ, List.getElem_cons_zero, List.setIfInBounds_toArray, List.set_cons_zero, List.set_cons_succ]
            refine S_take (i := 16) (v := .bool false) rfl rfl (by kernel_rfl) (by kernel_rfl) (by kernel_rfl) (fun _ _ _ h => h) (Or.inl ⟨by rfl, fun W hw => by go_simp⟩) hS ?_
            simp only [Act.put, List.getElem_toArray, List.getElem_cons_succ, List.getElem_cons_zero, List.setIfInBounds_toArray, List.set_cons_zero, List.set_cons_succ]
            refine S_take (i := 17) (v := .bool false) rfl rfl (by kernel_rfl) (by kernel_rfl) (by kernel_rfl) (fun _ _ _ h => h) (Or.inl ⟨by rfl, fun W hw => by go_simp⟩) hS ?_
            simp only [Act.put, List.getElem_toArray, List.getElem_cons_succ, List.getElem_cons_zero, List.setIfInBounds_toArray, List.set_cons_zero, List.set_cons_succ]
            refine S_take (i := 18) (v := .agg #[.int .i64 nid, .int .i64 nsz, .int .i64 nob, .int .i64 nsq, .slice S acc.length cS, .bool m.on, .bool m.good, .slice M m.row.length cm, .string (strOf l.par), .int .i64 l.ps, .int .i64 l.ov, .int .i64 ow, .int .i64 it, .int .i64 tg]) rfl rfl (by kernel_rfl) (by kernel_rfl) (by kernel_rfl) (fun _ _ _ h => h) (Or.inl ⟨by rfl, fun W hw => by have k0 : W.cell? ⟨gh, 0, none⟩ = some (.int .i64 nid) := (HHD.out W hw).cell 0; have k1 : W.cell? ⟨gh, 1, none⟩ = some (.int .i64 nsz) := (HHD.out W hw).cell 1; have k2 : W.cell? ⟨gh, 2, none⟩ = some (.int .i64 nob) := (HHD.out W hw).cell 2; have k3 : W.cell? ⟨gh, 3, none⟩ = some (.int .i64 nsq) := (HHD.out W hw).cell 3; have k4 : W.cell? ⟨gh, 4, none⟩ = some (.slice S acc.length cS) := (HHD.out W hw).cell 4; have k5 : W.cell? ⟨gh, 5, none⟩ = some (.bool m.on) := (HHD.out W hw).cell 5; have k6 : W.cell? ⟨gh, 6, none⟩ = some (.bool m.good) := (HHD.out W hw).cell 6; have k7 : W.cell? ⟨gh, 7, none⟩ = some (.slice M m.row.length cm) := (HHD.out W hw).cell 7; have k8 : W.cell? ⟨gh, 8, none⟩ = some (.string (strOf l.par)) := (HHD.out W hw).cell 8; have k9 : W.cell? ⟨gh, 9, none⟩ = some (.int .i64 l.ps) := (HHD.out W hw).cell 9; have k10 : W.cell? ⟨gh, 10, none⟩ = some (.int .i64 l.ov) := (HHD.out W hw).cell 10; have k11 : W.cell? ⟨gh, 11, none⟩ = some (.int .i64 ow) := (HHD.out W hw).cell 11; have k12 : W.cell? ⟨gh, 12, none⟩ = some (.int .i64 it) := (HHD.out W hw).cell 12; have k13 : W.cell? ⟨gh, 13, none⟩ = some (.int .i64 tg) := (HHD.out W hw).cell 13; go_simp⟩) hS ?_
            simp only [Act.put, List.getElem_toArray, List.getElem_cons_succ, List.getElem_cons_zero, List.setIfInBounds_toArray, List.set_cons_zero, List.set_cons_succ]
            refine S_take (i := 21) (v := .slice A0 b.length c) rfl rfl (by kernel_rfl) (by kernel_rfl) (by kernel_rfl) (fun _ _ _ h => h) (Or.inl ⟨by rfl, fun W hw => by go_simp⟩) hS ?_
            simp only [Act.put, List.getElem_toArray, List.getElem_cons_succ, List.getElem_cons_zero, List.setIfInBounds_toArray, List.set_cons_zero, List.set_cons_succ]
            refine S_take (i := 22) (v := .string (strOf b)) rfl rfl (by kernel_rfl) (by kernel_rfl) (by kernel_rfl) (fun _ _ _ h => h) (Or.inl ⟨by rfl, fun W hw => by have k1 := HCB.out W hw; go_simp⟩) hS ?_
            simp only [Act.put, List.getElem_toArray, List.getElem_cons_succ, List.getElem_cons_zero, List.setIfInBounds_toArray, List.set_cons_zero, List.set_cons_succ]
            refine L_one (j := 19) (by kernel_rfl) rfl (by rfl) ?_
            simp only [Act.put, List.getElem_toArray, List.getElem_cons_succ, List.getElem_cons_zero, List.setIfInBounds_toArray, List.set_cons_zero, List.set_cons_succ]
            refine wp_called (by go_simp) ((fun W h => HPT.out (by trivial) W h) _ hS) ?_
            rintro e W19 ⟨A8, c8, rfl, hcv8, b⟩
            have hS : Below WZ.heap.size WZ W19 := hS.trans (b.mono hS.size)
            clear b
            refine ⟨_, rfl, hS, ?_⟩
            simp only [Act.put, List.getElem_toArray, List.getElem_cons_succ, List.getElem_cons_zero, List.setIfInBounds_toArray, List.set_cons_zero, List.set_cons_succ]
            refine L_one (j := 20) (by kernel_rfl) rfl (by rfl) ?_
            simp only [Act.put, List.getElem_toArray, List.getElem_cons_succ, List.getElem_cons_zero, List.setIfInBounds_toArray, List.set_cons_zero, List.set_cons_succ]
            have hc9 := hcv8 c8
            refine wp_ran (v := .string (strOf tx)) (w' := W19) (by go_simp) ⟨hS, ?_⟩
            simp only [Act.put, List.getElem_toArray, List.getElem_cons_succ, List.getElem_cons_zero, List.setIfInBounds_toArray, List.set_cons_zero, List.set_cons_succ]
            clear hc9
            refine S_take (i := 23) (v := .bool false) rfl rfl (by kernel_rfl) (by kernel_rfl) (by kernel_rfl) (fun _ _ _ h => h) (Or.inl ⟨by rfl, fun W hw => by have k1 := HEQ9.out; go_simp⟩) hS ?_
            simp only [Act.put, List.getElem_toArray, List.getElem_cons_succ, List.getElem_cons_zero, List.setIfInBounds_toArray, List.set_cons_zero, List.set_cons_succ]
            refine S_take (i := 24) (v := .bool false) rfl rfl (by kernel_rfl) (by kernel_rfl) (by kernel_rfl) (fun _ _ _ h => h) (Or.inl ⟨by rfl, fun W hw => by go_simp⟩) hS ?_
            simp only [Act.put, List.getElem_toArray, List.getElem_cons_succ, List.getElem_cons_zero, List.setIfInBounds_toArray, List.set_cons_zero, List.set_cons_succ]
            refine L_done (by kernel_rfl) ?_
            refine NoPanic.normal ?_
            have HS9 := Lib.hid hS
            have KZ := HRS.out _ hS
            have KH := HHD.out _ hS
            clear hS
            go_wp2_with (first | (have _h := KH; refine wpList_loadq rfl 29 (.tmp 5) rfl (gh) [.int .i64 nid, .int .i64 nsz, .int .i64 nob, .int .i64 nsq, .slice S acc.length cS, .bool m.on, .bool m.good, .slice M m.row.length cm, .string (strOf l.par), .int .i64 l.ps, .int .i64 l.ov, .int .i64 ow, .int .i64 it, .int .i64 tg] _ rfl KH Try.underlying29 rfl (by kernel_rfl) ?_; clear _h KH) | (have _h := KZ; refine wpList_storeq rfl 29 (.tmp 2) (.tmp 130) rfl (w.heap.size) _ [.int .i64 nid, .int .i64 nsz, .int .i64 nob, .int .i64 nsq, .slice S acc.length cS, .bool m.on, .bool m.good, .slice M m.row.length cm, .string (strOf l.par), .int .i64 l.ps, .int .i64 l.ov, .int .i64 ow, .int .i64 it, .int .i64 tg] rfl rfl KZ (by simp) (by kernel_rfl) (one14 _ _ _ _ _ _ _ _ _ _ _ _ _ _ _ _ _ _) ?_; clear _h KZ; intro w9 K9 o9 s9))
            refine bodyPost_ret (results_cell_tmp9 rfl _ _ w.heap.size 29 _ (0, 0) _ _ rfl rfl K9 Try.underlying29 rfl (by kernel_rfl)) rfl ?_
            have hbz := E10.out.bel.trans (HS9.out.mono E10.out.bel.size)
            have DZ := E10.out.below HS9.out
            obtain ⟨r1, r2⟩ := DZ.ret o9
            have hm9 : Own _ gr (.slice M m.row.length cm) m.row.length m.row := row_stay (own_below HO10.out HS9.out) DZ.res (by decide) o9
            exact ⟨hbz.trans (o9.below (fun x hx => by simp at hx; omega) hbz.size), .inl ⟨HDOK.out.2 ⟨by trivial, by have h2 := HP0.out; omega, by trivial, HTE.out⟩, (⟨nid, nob, nsq, S, cS, acc, ⟨nsz, m.on, m.good, m.row, M, cm, l.par, l.ps, l.ov⟩, ow, it, tg⟩ : HA), rfl, HQ.out.1, fun W hW => (fun (hW' : ∀ k, gr ≤ k → k < w9.heap.size → W.heap[k]? = w9.heap[k]?) => HQ.out.2 W (row_move hm9 hW') (fun x hx => (r1 x hx).move hW') (row_move r2 hW')) (fun k h1 h2 => hW k (by have := E10.out.c1; omega) h2)⟩⟩
          · have HEQ9 : Hid (((strOf tx).toList == (strOf b).toList) = false) := Lib.hid ((HEQ.out (by trivial)).trans (decide_eq_false heq))
            have HTE := Lib.hid heq
            clear heq
            as_aux_lemma =>
            have hS : Below WZ.heap.size WZ WZ.drew := (Below.refl _ WZ).drew
            go_upto_region 27 with (fail)
            refine any_beginL (fun W' => Below WZ.heap.size WZ W') 99 (by kernel_rfl) ?_
            refine S_take (i := 0) (v := .pointer (some ⟨gr, 0, none⟩)) rfl rfl (by kernel_rfl) (by kernel_rfl) (by kernel_rfl) (fun _ _ _ h => h) (Or.inl ⟨by rfl, fun W hw => by go_simp⟩) hS ?_
            simp only [Act.put, List.getElem_toArray, List.getElem_cons_succ, List.getElem_cons_zero, List.setIfInBounds_toArray, List.set_cons_zero, List.set_cons_succ]
            refine S_take (i := 1) (v := .pointer (some ⟨gr, 0, none⟩)) rfl rfl (by kernel_rfl) (by kernel_rfl) (by kernel_rfl) (fun _ _ _ h => h) (Or.inl ⟨by rfl, fun W hw => by go_simp⟩) hS ?_
            simp only [Act.put, List.getElem_toArray, List.getElem_cons_succ, List.getElem_cons_zero, List.setIfInBounds_toArray, List.set_cons_zero, List.set_cons_succ]
            refine S_take (i := 2) (v := .pointer (some ⟨gr, 1, none⟩)) rfl rfl (by kernel_rfl) (by kernel_rfl) (by kernel_rfl) (fun _ _ _ h => h) (Or.inl ⟨by rfl, fun W hw => by go_simp⟩) hS ?_
            simp only [Act.put, List.getElem_toArray, List.getElem_cons_succ, List.getElem_cons_zero, List.setIfInBounds_toArray, List.set_cons_zero, List.set_cons_succ]
            refine S_take (i := 3) (v := .bool false) rfl rfl (by kernel_rfl) (by kernel_rfl) (by kernel_rfl) (fun _ _ _ h => h) (Or.inl ⟨by rfl, fun W hw => by have k0 : W.cell? ⟨gr, 1, none⟩ = some (.bool false) := (HRD.out W hw).cell 1; go_simp⟩) hS ?_
            simp only [Act.put, List.getElem_toArray, List.getElem_cons_succ, List.getElem_cons_zero, List.setIfInBounds_toArray, List.set_cons_zero, List.set_cons_succ]
            refine S_take (i := 4) (v := .bool false) rfl rfl (by kernel_rfl) (by kernel_rfl) (by kernel_rfl) (fun _ _ _ h => h) (Or.inl ⟨by rfl, fun W hw => by go_simp⟩) hS ?_
            simp only [Act.put, List.getElem_toArray, List.getElem_cons_succ, List.getElem_cons_zero, List.setIfInBounds_toArray, List.set_cons_zero, List.set_cons_succ]
            refine S_take (i := 5) (v := .pointer (some ⟨gr, 0, none⟩)) rfl rfl (by kernel_rfl) (by kernel_rfl) (by kernel_rfl) (fun _ _ _ h => h) (Or.inl ⟨by rfl, fun W hw => by go_simp⟩) hS ?_
            simp only [Act.put, List.getElem_toArray, List.getElem_cons_succ, List.getElem_cons_zero, List.setIfInBounds_toArray, List.set_cons_zero, List.set_cons_succ]
            refine S_take (i := 6) (v := .pointer (some ⟨gr, 0, none⟩)) rfl rfl (by kernel_rfl) (by kernel_rfl) (by kernel_rfl) (fun _ _ _ h => h) (Or.inl ⟨by rfl, fun W hw => by go_simp⟩) hS ?_
            simp only [Act.put, List.getElem_toArray, List.getElem_cons_succ, List.getElem_cons_zero, List.setIfInBounds_toArray, List.set_cons_zero, List.set_cons_succ]
            refine S_take (i := 7) (v := .pointer (some ⟨gr, 0, none⟩)) rfl rfl (by kernel_rfl) (by kernel_rfl) (by kernel_rfl) (fun _ _ _ h => h) (Or.inl ⟨by rfl, fun W hw => by go_simp⟩) hS ?_
            simp only [Act.put, List.getElem_toArray, List.getElem_cons_succ, List.getElem_cons_zero, List.setIfInBounds_toArray, List.set_cons_zero, List.set_cons_succ]
            refine S_take (i := 8) (v := .slice A9 rn c9) rfl rfl (by kernel_rfl) (by kernel_rfl) (by kernel_rfl) (fun _ _ _ h => h) (Or.inl ⟨by rfl, fun W hw => by have k0 : W.cell? ⟨gr, 0, none⟩ = some (.slice A9 rn c9) := (HRD.out W hw).cell 0; go_simp⟩) hS ?_
            simp only [Act.put, List.getElem_toArray, List.getElem_cons_succ, List.getElem_cons_zero, List.setIfInBounds_toArray, List.set_cons_zero, List.set_cons_succ]
            refine S_take (i := 9) (v := .int .i64 (rn : Int)) rfl rfl (by kernel_rfl) (by kernel_rfl) (by kernel_rfl) (fun _ _ _ h => h) (Or.inl ⟨by rfl, fun W hw => by go_simp⟩) hS ?_
            simp only [Act.put, List.getElem_toArray, List.getElem_cons_succ, List.getElem_cons_zero, List.setIfInBounds_toArray, List.set_cons_zero, List.set_cons_succ]
            refine S_take (i := 10) (v := .bool false) rfl rfl (by kernel_rfl) (by kernel_rfl) (by kernel_rfl) (fun _ _ _ h => h) (Or.inl ⟨by rfl, fun W hw => by have k1 := HP0.out; first | (go_simp; done) | (go_simp; omega)⟩) hS ?_
            simp only [Act.put, List.getElem_toArray, List.getElem_cons_succ, List.getElem_cons_zero, List.setIfInBounds_toArray, List.set_cons_zero, List.set_cons_succ]
            refine S_take (i := 11) (v := .bool false) rfl rfl (by kernel_rfl) (by kernel_rfl) (by kernel_rfl) (fun _ _ _ h => h) (Or.inl ⟨by rfl, fun W hw => by go_simp⟩) hS ?_
            simp only [Act.put, List.getElem_toArray, List.getElem_cons_succ, List.getElem_cons_zero, List.setIfInBounds_toArray, List.set_cons_zero, List.set_cons_succ]
            refine S_take (i := 12) (v := .bool false) rfl rfl (by kernel_rfl) (by kernel_rfl) (by kernel_rfl) (fun _ _ _ h => h) (Or.inl ⟨by rfl, fun W hw => by go_simp⟩) hS ?_
            simp only [Act.put, List.getElem_toArray, List.getElem_cons_succ, List.getElem_cons_zero, List.setIfInBounds_toArray, List.set_cons_zero, List.set_cons_succ]
            refine S_take (i := 13) (v := .agg #[.int .i64 nid, .int .i64 nsz, .int .i64 nob, .int .i64 nsq, .slice S acc.length cS, .bool m.on, .bool m.good, .slice M m.row.length cm, .string (strOf l.par), .int .i64 l.ps, .int .i64 l.ov, .int .i64 ow, .int .i64 it, .int .i64 tg]) rfl rfl (by kernel_rfl) (by kernel_rfl) (by kernel_rfl) (fun _ _ _ h => h) (Or.inl ⟨by rfl, fun W hw => by have k0 : W.cell? ⟨gh, 0, none⟩ = some (.int .i64 nid) := (HHD.out W hw).cell 0; have k1 : W.cell? ⟨gh, 1, none⟩ = some (.int .i64 nsz) := (HHD.out W hw).cell 1; have k2 : W.cell? ⟨gh, 2, none⟩ = some (.int .i64 nob) := (HHD.out W hw).cell 2; have k3 : W.cell? ⟨gh, 3, none⟩ = some (.int .i64 nsq) := (HHD.out W hw).cell 3; have k4 : W.cell? ⟨gh, 4, none⟩ = some (.slice S acc.length cS) := (HHD.out W hw).cell 4; have k5 : W.cell? ⟨gh, 5, none⟩ = some (.bool m.on) := (HHD.out W hw).cell 5; have k6 : W.cell? ⟨gh, 6, none⟩ = some (.bool m.good) := (HHD.out W hw).cell 6; have k7 : W.cell? ⟨gh, 7, none⟩ = some (.slice M m.row.length cm) := (HHD.out W hw).cell 7; have k8 : W.cell? ⟨gh, 8, none⟩ = some (.string (strOf l.par)) := (HHD.out W hw).cell 8; have k9 : W.cell? ⟨gh, 9, none⟩ = some (.int .i64 l.ps) := (HHD.out W hw).cell 9; have k10 : W.cell? ⟨gh, 10, none⟩ = some (.int .i64 l.ov) := (HHD.out W hw).cell 10; have k11 : W.cell? ⟨gh, 11, none⟩ = some (.int .i64 ow) := (HHD.out W hw).cell 11; have k12 : W.cell? ⟨gh, 12, none⟩ = some (.int .i64 it) := (HHD.out W hw).cell 12; have k13 : W.cell? ⟨gh, 13, none⟩ = some (.int .i64 tg) := (HHD.out W hw).cell 13; go_simp⟩) hS ?_
            simp only [Act.put, List.getElem_toArray, List.getElem_cons_succ, List.getElem_cons_zero, List.setIfInBounds_toArray, List.set_cons_zero, List.set_cons_succ]
            refine L_one (j := 14) (by kernel_rfl) rfl (by rfl) ?_
            simp only [Act.put, List.getElem_toArray, List.getElem_cons_succ, List.getElem_cons_zero, List.setIfInBounds_toArray, List.set_cons_zero, List.set_cons_succ]
            refine wp_called (by go_simp) (HGD.out _ hS) ?_
            rintro e W14 ⟨rfl, b⟩
            have hS : Below WZ.heap.size WZ W14 := hS.trans (b.mono hS.size)
            clear b
            refine ⟨_, rfl, hS, ?_⟩
            simp only [Act.put, List.getElem_toArray, List.getElem_cons_succ, List.getElem_cons_zero, List.setIfInBounds_toArray, List.set_cons_zero, List.set_cons_succ]
            refine S_take (i := 15) (v := .bool false) rfl rfl (by kernel_rfl) (by kernel_rfl) (by kernel_rfl) (fun _ _ _ h => h) (Or.inl ⟨by rfl, fun W hw => by go_simp⟩) hS ?_
            simp only [Act.put, List.getElem_toArray, List.getElem_cons_succ, List.getElem_cons_zero, List.setIfInBounds_toArray, List.set_cons_zero, List.set_cons_succ]
            refine S_take (i := 16) (v := .bool false) rfl rfl (by kernel_rfl) (by kernel_rfl) (by kernel_rfl) (fun _ _ _ h => h) (Or.inl ⟨by rfl, fun W hw => by go_simp⟩) hS ?_
            simp only [Act.put, List.getElem_toArray, List.getElem_cons_succ, List.getElem_cons_zero, List.setIfInBounds_toArray, List.set_cons_zero, List.set_cons_succ]
            refine S_take (i := 17) (v := .bool false) rfl rfl (by kernel_rfl) (by kernel_rfl) (by kernel_rfl) (fun _ _ _ h => h) (Or.inl ⟨by rfl, fun W hw => by go_simp⟩) hS ?_
            simp only [Act.put, List.getElem_toArray, List.getElem_cons_succ, List.getElem_cons_zero, List.setIfInBounds_toArray, List.set_cons_zero, List.set_cons_succ]
            refine S_take (i := 18) (v := .agg #[.int .i64 nid, .int .i64 nsz, .int .i64 nob, .int .i64 nsq, .slice S acc.length cS, .bool m.on, .bool m.good, .slice M m.row.length cm, .string (strOf l.par), .int .i64 l.ps, .int .i64 l.ov, .int .i64 ow, .int .i64 it, .int .i64 tg]) rfl rfl (by kernel_rfl) (by kernel_rfl) (by kernel_rfl) (fun _ _ _ h => h) (Or.inl ⟨by rfl, fun W hw => by have k0 : W.cell? ⟨gh, 0, none⟩ = some (.int .i64 nid) := (HHD.out W hw).cell 0; have k1 : W.cell? ⟨gh, 1, none⟩ = some (.int .i64 nsz) := (HHD.out W hw).cell 1; have k2 : W.cell? ⟨gh, 2, none⟩ = some (.int .i64 nob) := (HHD.out W hw).cell 2; have k3 : W.cell? ⟨gh, 3, none⟩ = some (.int .i64 nsq) := (HHD.out W hw).cell 3; have k4 : W.cell? ⟨gh, 4, none⟩ = some (.slice S acc.length cS) := (HHD.out W hw).cell 4; have k5 : W.cell? ⟨gh, 5, none⟩ = some (.bool m.on) := (HHD.out W hw).cell 5; have k6 : W.cell? ⟨gh, 6, none⟩ = some (.bool m.good) := (HHD.out W hw).cell 6; have k7 : W.cell? ⟨gh, 7, none⟩ = some (.slice M m.row.length cm) := (HHD.out W hw).cell 7; have k8 : W.cell? ⟨gh, 8, none⟩ = some (.string (strOf l.par)) := (HHD.out W hw).cell 8; have k9 : W.cell? ⟨gh, 9, none⟩ = some (.int .i64 l.ps) := (HHD.out W hw).cell 9; have k10 : W.cell? ⟨gh, 10, none⟩ = some (.int .i64 l.ov) := (HHD.out W hw).cell 10; have k11 : W.cell? ⟨gh, 11, none⟩ = some (.int .i64 ow) := (HHD.out W hw).cell 11; have k12 : W.cell? ⟨gh, 12, none⟩ = some (.int .i64 it) := (HHD.out W hw).cell 12; have k13 : W.cell? ⟨gh, 13, none⟩ = some (.int .i64 tg) := (HHD.out W hw).cell 13; go_simp⟩) hS ?_
            simp only [Act.put, List.getElem_toArray, List.getElem_cons_succ, List.getElem_cons_zero, List.setIfInBounds_toArray, List.set_cons_zero, List.set_cons_succ]
            refine S_take (i := 21) (v := .slice A0 b.length c) rfl rfl (by kernel_rfl) (by kernel_rfl) (by kernel_rfl) (fun _ _ _ h => h) (Or.inl ⟨by rfl, fun W hw => by go_simp⟩) hS ?_
            simp only [Act.put, List.getElem_toArray, List.getElem_cons_succ, List.getElem_cons_zero, List.setIfInBounds_toArray, List.set_cons_zero, List.set_cons_succ]
            refine S_take (i := 22) (v := .string (strOf b)) rfl rfl (by kernel_rfl) (by kernel_rfl) (by kernel_rfl) (fun _ _ _ h => h) (Or.inl ⟨by rfl, fun W hw => by have k1 := HCB.out W hw; go_simp⟩) hS ?_
            simp only [Act.put, List.getElem_toArray, List.getElem_cons_succ, List.getElem_cons_zero, List.setIfInBounds_toArray, List.set_cons_zero, List.set_cons_succ]
            refine L_one (j := 19) (by kernel_rfl) rfl (by rfl) ?_
            simp only [Act.put, List.getElem_toArray, List.getElem_cons_succ, List.getElem_cons_zero, List.setIfInBounds_toArray, List.set_cons_zero, List.set_cons_succ]
            refine wp_called (by go_simp) ((fun W h => HPT.out (by trivial) W h) _ hS) ?_
            rintro e W19 ⟨A8, c8, rfl, hcv8, b⟩
            have hS : Below WZ.heap.size WZ W19 := hS.trans (b.mono hS.size)
            clear b
            refine ⟨_, rfl, hS, ?_⟩
            simp only [Act.put, List.getElem_toArray, List.getElem_cons_succ, List.getElem_cons_zero, List.setIfInBounds_toArray, List.set_cons_zero, List.set_cons_succ]
            refine L_one (j := 20) (by kernel_rfl) rfl (by rfl) ?_
            simp only [Act.put, List.getElem_toArray, List.getElem_cons_succ, List.getElem_cons_zero, List.setIfInBounds_toArray, List.set_cons_zero, List.set_cons_succ]
            have hc9 := hcv8 c8
            refine wp_ran (v := .string (strOf tx)) (w' := W19) (by go_simp) ⟨hS, ?_⟩
            simp only [Act.put, List.getElem_toArray, List.getElem_cons_succ, List.getElem_cons_zero, List.setIfInBounds_toArray, List.set_cons_zero, List.set_cons_succ]
            clear hc9
            refine S_take (i := 23) (v := .bool true) rfl rfl (by kernel_rfl) (by kernel_rfl) (by kernel_rfl) (fun _ _ _ h => h) (Or.inl ⟨by rfl, fun W hw => by have k1 := HEQ9.out; go_simp⟩) hS ?_
            simp only [Act.put, List.getElem_toArray, List.getElem_cons_succ, List.getElem_cons_zero, List.setIfInBounds_toArray, List.set_cons_zero, List.set_cons_succ]
            refine S_take (i := 24) (v := .bool true) rfl rfl (by kernel_rfl) (by kernel_rfl) (by kernel_rfl) (fun _ _ _ h => h) (Or.inl ⟨by rfl, fun W hw => by go_simp⟩) hS ?_
            simp only [Act.put, List.getElem_toArray, List.getElem_cons_succ, List.getElem_cons_zero, List.setIfInBounds_toArray, List.set_cons_zero, List.set_cons_succ]
            refine L_done (by kernel_rfl) ?_
            refine NoPanic.normal ?_
            have HS9 := Lib.hid hS
            have KZ := HRS.out _ hS
            clear hS
            go_wp2_with (have _h := KZ; refine wpList_storeq rfl 29 (.tmp 2) (.tmp 129) rfl (w.heap.size) _ [.int .i64 0, .int .i64 0, .int .i64 0, .int .i64 0, .slice none 0 0, .bool false, .bool false, .slice none 0 0, .string ⟨#[]⟩, .int .i64 0, .int .i64 0, .int .i64 0, .int .i64 0, .int .i64 0] rfl rfl KZ (by simp) (by kernel_rfl) (one14 _ _ _ _ _ _ _ _ _ _ _ _ _ _ _ _ _ _) ?_; clear _h KZ; intro w9 K9 o9 s9)
            refine bodyPost_ret (results_cell_tmp9 rfl _ _ w.heap.size 29 _ (0, 0) _ _ rfl rfl K9 Try.underlying29 rfl (by kernel_rfl)) rfl ?_
            have hbz := E10.out.bel.trans (HS9.out.mono E10.out.bel.size)
            exact ⟨hbz.trans (o9.below (fun x hx => by simp at hx; omega) hbz.size), .inr ⟨fun h => HTE.out (HDOK.out.1 h).2.2.2, rfl⟩⟩
    | true => as_aux_lemma =>
      obtain ⟨hlt, hnb⟩ := hx.1 rfl
      have HGO := Lib.hid (And.intro hlt (HBD.out.symm.trans hnb))
      have D10 : Hid (Dk w gr gr gh [.int .i64 nid, .int .i64 nsz, .int .i64 nob, .int .i64 nsq, .slice S acc.length cS, .bool false, .bool false, .slice none 0 0, .string ⟨#[]⟩, .int .i64 0, .int .i64 0, .int .i64 0, .int .i64 0, .int .i64 0] s acc S cS wr) := Lib.hid HR.out.2.2.2.2
      clear hx hlt hnb HBD
      obtain ⟨t1, ht1⟩ : ∃ t, t = s.take 8 := ⟨_, rfl⟩
      obtain ⟨t2, ht2⟩ : ∃ t, t = t1.bytesTo := ⟨_, rfl⟩
      obtain ⟨t3, ht3⟩ : ∃ t, t = t2.take 8 := ⟨_, rfl⟩
      obtain ⟨t4, ht4⟩ : ∃ t, t = t3.mkTo := ⟨_, rfl⟩
      obtain ⟨t5, ht5⟩ : ∃ t, t = t4.lkTo := ⟨_, rfl⟩
      obtain ⟨t6, ht6⟩ : ∃ t, t = t5.flagTo := ⟨_, rfl⟩
      obtain ⟨t7, ht7⟩ : ∃ t, t = t6.take 8 := ⟨_, rfl⟩
      obtain ⟨num, hnum⟩ : ∃ t, t = s.num := ⟨_, rfl⟩
      obtain ⟨name, hname⟩ : ∃ t, t = t1.bytes := ⟨_, rfl⟩
      obtain ⟨size, hsize⟩ : ∃ t, t = t2.num := ⟨_, rfl⟩
      obtain ⟨m, hm⟩ : ∃ t, t = t3.mkv := ⟨_, rfl⟩
      obtain ⟨l, hl⟩ : ∃ t, t = t4.lkv := ⟨_, rfl⟩
      obtain ⟨pr, hpr⟩ : ∃ t, t = t5.flag := ⟨_, rfl⟩
      obtain ⟨cnt, hcnt⟩ : ∃ t, t = t6.num := ⟨_, rfl⟩
      have G1 := Lib.hid (And.intro ht1 hnum)
      have G2 := Lib.hid (And.intro ht2 hname)
      have G3 := Lib.hid (And.intro ht3 hsize)
      have G4 := Lib.hid (And.intro ht4 hm)
      have G5 := Lib.hid (And.intro ht5 hl)
      have G6 := Lib.hid (And.intro ht6 hpr)
      have G7 := Lib.hid (And.intro ht7 hcnt)
      clear ht1 ht2 ht3 ht4 ht5 ht6 ht7 hnum hname hsize hm hl hpr hcnt
      have hzs := dsnap_zero
      go_wp2_with fail
      refine (D10.out.num G1.out.1 G1.out.2).mono ?_
      rintro e W10 ⟨rfl, d, o⟩
      obtain ⟨W11, hW11⟩ : ∃ W, W = W10.alloc (.cells #[.int .i64 num, .int .i64 0, .string ⟨#[]⟩, .bool false, .bool false, .bool false, .slice none 0 0, .string ⟨#[]⟩, .int .i64 0, .int .i64 0, .slice none 0 0] 74) := ⟨_, rfl⟩
      obtain ⟨gs, hgs⟩ : ∃ g, g = W10.heap.size := ⟨_, rfl⟩
      have b11 : Below W10.heap.size W10 W11 := by rw [hW11]; exact below_alloc W10 _
      have D11 : Hid (Dk w gr gr gh [.int .i64 nid, .int .i64 nsz, .int .i64 nob, .int .i64 nsq, .slice S acc.length cS, .bool false, .bool false, .slice none 0 0, .string ⟨#[]⟩, .int .i64 0, .int .i64 0, .int .i64 0, .int .i64 0, .int .i64 0] t1 acc S cS W11) := Lib.hid (d.below b11)
      have K11 : Blk W11 gs 74 #[.int .i64 num, .int .i64 0, .string ⟨#[]⟩, .bool false, .bool false, .bool false, .slice none 0 0, .string ⟨#[]⟩, .int .i64 0, .int .i64 0, .slice none 0 0] := by rw [hW11, hgs]; exact Blk.new W10 _ _
      have HK11 := Lib.hid K11
      have HGS : Hid (gr ≤ gs ∧ gs ≠ gr ∧ gs ≠ gh ∧ (∀ k ∈ rowOf (.slice S 0 0), k ≠ gs)) ∧ Hid (∀ x ∈ acc, ∀ k ∈ rowOf (.slice x.vw.M 0 0) ++ rowOf (.slice x.C 0 0), k < gs) := (by
        obtain ⟨cr, kr⟩ := d.rdb
        have h1 := kr.lt
        have h2 := d.hd.lt
        refine ⟨Lib.hid ⟨by omega, by omega, by omega, fun k hk => ?_⟩, Lib.hid fun x hx k hk => ?_⟩
        · have := row_under d.own k (by rw [row_slice S acc.length cS 0 0]; exact hk)
          omega
        · rcases List.mem_append.1 hk with hk | hk
          · have := (d.sn x hx).vw.under hk; omega
          · have := (d.sn x hx).under hk; omega)
      obtain ⟨HGS, HAC⟩ := HGS
      have HW11 := Lib.hid (And.intro hW11 hgs)
      clear d o hW11 hgs b11 K11 D10
      go_upto_region 11 with (fail)
      rw [← HW11.out.1, ← HW11.out.2]
      clear HW11
      go_wp2_with fail
      refine (D11.out.bytes G2.out.1 G2.out.2).mono ?_
      rintro e W12 ⟨A2, c2, rfl, hcv, hnlt, d, o⟩
      have hcv2 := hcv c2
      obtain ⟨st, hst⟩ : ∃ st, st = strOf name := ⟨_, rfl⟩
      rw [← hst] at hcv2
      have K12 := HK11.out.only o (by have := HGS.out.2.1; simp; omega)
      have D12 := Lib.hid d
      have HK12 := Lib.hid K12
      have HST := Lib.hid (And.intro hst hnlt)
      clear d o hcv hst hnlt HK11 D11
      go_wp2_with (have _h := K12; refine wpList_setq rfl 9 (.tmp 48) (.tmp 47) rfl gs 2 74 _ (.string st) rfl rfl K12 (by simp) (by kernel_rfl) rfl ?_; clear _h K12; intro V12 k o q)
      have D13 : Hid (Dk w gr gr gh [.int .i64 nid, .int .i64 nsz, .int .i64 nob, .int .i64 nsq, .slice S acc.length cS, .bool false, .bool false, .slice none 0 0, .string ⟨#[]⟩, .int .i64 0, .int .i64 0, .int .i64 0, .int .i64 0, .int .i64 0] t2 acc S cS V12) := Lib.hid (D12.out.sets (HK12.out) o HGS.out.1 HGS.out.2.1 HGS.out.2.2.1 HGS.out.2.2.2)
      have HK13 : Hid (Blk V12 gs 74 #[.int .i64 num, .int .i64 0, .string st, .bool false, .bool false, .bool false, .slice none 0 0, .string ⟨#[]⟩, .int .i64 0, .int .i64 0, .slice none 0 0]) := Lib.hid k
      clear k o q D12 hcv2 HK12
      refine (D13.out.num G3.out.1 G3.out.2).mono ?_
      rintro e W13 ⟨rfl, d, o⟩
      have K13 := HK13.out.only o (by have := HGS.out.2.1; simp; omega)
      have HK13' := Lib.hid K13
      have D13' := Lib.hid d
      clear d o HK13 D13
      go_wp2_with (have _h := K13; refine wpList_setq rfl 3 (.tmp 51) (.tmp 50) rfl gs 1 74 _ (.int .i64 size) rfl rfl K13 (by simp) (by kernel_rfl) rfl ?_; clear _h K13; intro V13 k o q)
      have D14 : Hid (Dk w gr gr gh [.int .i64 nid, .int .i64 nsz, .int .i64 nob, .int .i64 nsq, .slice S acc.length cS, .bool false, .bool false, .slice none 0 0, .string ⟨#[]⟩, .int .i64 0, .int .i64 0, .int .i64 0, .int .i64 0, .int .i64 0] t3 acc S cS V13) := Lib.hid (D13'.out.sets HK13'.out o HGS.out.1 HGS.out.2.1 HGS.out.2.2.1 HGS.out.2.2.2)
      have HK14 : Hid (Blk V13 gs 74 #[.int .i64 num, .int .i64 size, .string st, .bool false, .bool false, .bool false, .slice none 0 0, .string ⟨#[]⟩, .int .i64 0, .int .i64 0, .slice none 0 0]) := Lib.hid k
      clear k o q D13' HK13'
      refine (D14.out.marks G4.out.1 G4.out.2).mono ?_
      rintro e W14 ⟨M, cm, rfl, ho, hmlt, d, o⟩
      have K14 := HK14.out.only o (by have := HGS.out.2.1; simp; omega)
      have HK14' := Lib.hid K14
      have D14' := Lib.hid d
      have HO14 : Hid (Own W14 gr (.slice M m.row.length cm) m.row.length m.row) := Lib.hid (ho.weaken D14.out.c4)
      have HML := Lib.hid hmlt
      clear d o ho hmlt HK14 D14
      go_wp2_with (have _h := K14; refine wpList_set3 rfl 25 (.tmp 54) (.tmp 53) rfl gs 4 74 _ (.bool m.on) (.bool m.good) (.slice M m.row.length cm) rfl rfl K14 (by simp) (by kernel_rfl) rfl rfl rfl ?_; clear _h K14; intro V14 k o q)
      have D15 : Hid (Dk w gr gr gh [.int .i64 nid, .int .i64 nsz, .int .i64 nob, .int .i64 nsq, .slice S acc.length cS, .bool false, .bool false, .slice none 0 0, .string ⟨#[]⟩, .int .i64 0, .int .i64 0, .int .i64 0, .int .i64 0, .int .i64 0] t4 acc S cS V14) := Lib.hid (D14'.out.sets HK14'.out o HGS.out.1 HGS.out.2.1 HGS.out.2.2.1 HGS.out.2.2.2)
      have HO15 : Hid (Own V14 gr (.slice M m.row.length cm) m.row.length m.row) := Lib.hid (row_stay HO14.out HK14'.out (by decide) o)
      have HK15 : Hid (Blk V14 gs 74 #[.int .i64 num, .int .i64 size, .string st, .bool false, .bool m.on, .bool m.good, .slice M m.row.length cm, .string ⟨#[]⟩, .int .i64 0, .int .i64 0, .slice none 0 0]) := Lib.hid k
      clear k o q D14' HK14' HO14
      refine (D15.out.link G5.out.1 G5.out.2).mono ?_
      rintro e W15 ⟨rfl, hllt, d, o⟩
      have K15 := HK15.out.only o (by have := HGS.out.2.1; simp; omega)
      have HK15' := Lib.hid K15
      have D15' := Lib.hid d
      have HO15' : Hid (Own W15 gr (.slice M m.row.length cm) m.row.length m.row) := Lib.hid (by
        obtain ⟨cr, kr⟩ := D15.out.rdb
        exact row_stay HO15.out kr (by decide) o)
      have HLL := Lib.hid hllt
      obtain ⟨sl, hsl⟩ : ∃ st, st = strOf l.par := ⟨_, rfl⟩
      rw [← hsl]
      have HSL := Lib.hid hsl
      clear d o hllt hsl HK15 D15 HO15
      go_wp2_with (have _h := K15; refine wpList_set3 rfl 27 (.tmp 57) (.tmp 56) rfl gs 7 74 _ (.string sl) (.int .i64 l.ps) (.int .i64 l.ov) rfl rfl K15 (by simp) (by kernel_rfl) rfl rfl rfl ?_; clear _h K15; intro V15 k o q)
      have D16 : Hid (Dk w gr gr gh [.int .i64 nid, .int .i64 nsz, .int .i64 nob, .int .i64 nsq, .slice S acc.length cS, .bool false, .bool false, .slice none 0 0, .string ⟨#[]⟩, .int .i64 0, .int .i64 0, .int .i64 0, .int .i64 0, .int .i64 0] t5 acc S cS V15) := Lib.hid (D15'.out.sets HK15'.out o HGS.out.1 HGS.out.2.1 HGS.out.2.2.1 HGS.out.2.2.2)
      have HO16 : Hid (Own V15 gr (.slice M m.row.length cm) m.row.length m.row) := Lib.hid (row_stay HO15'.out HK15'.out (by decide) o)
      have HK16 : Hid (Blk V15 gs 74 #[.int .i64 num, .int .i64 size, .string st, .bool false, .bool m.on, .bool m.good, .slice M m.row.length cm, .string sl, .int .i64 l.ps, .int .i64 l.ov, .slice none 0 0]) := Lib.hid k
      clear k o q D15' HK15' HO15'
      refine (D16.out.flag G6.out.1 G6.out.2).mono ?_
      rintro e W16 ⟨rfl, d, o⟩
      have K16 := HK16.out.only o (by have := HGS.out.2.1; simp; omega)
      have HK16' := Lib.hid K16
      have D16' := Lib.hid d
      have HO16' : Hid (Own W16 gr (.slice M m.row.length cm) m.row.length m.row) := Lib.hid (by
        obtain ⟨cr, kr⟩ := D16.out.rdb
        exact row_stay HO16.out kr (by decide) o)
      clear d o HK16 D16 HO16
      go_wp2_with (have _h := K16; refine wpList_setq rfl 4 (.tmp 60) (.tmp 59) rfl gs 3 74 _ (.bool pr) rfl rfl K16 (by simp) (by kernel_rfl) rfl ?_; clear _h K16; intro V16 k o q)
      have D17 : Hid (Dk w gr gr gh [.int .i64 nid, .int .i64 nsz, .int .i64 nob, .int .i64 nsq, .slice S acc.length cS, .bool false, .bool false, .slice none 0 0, .string ⟨#[]⟩, .int .i64 0, .int .i64 0, .int .i64 0, .int .i64 0, .int .i64 0] t6 acc S cS V16) := Lib.hid (D16'.out.sets HK16'.out o HGS.out.1 HGS.out.2.1 HGS.out.2.2.1 HGS.out.2.2.2)
      have HO17 : Hid (Own V16 gr (.slice M m.row.length cm) m.row.length m.row) := Lib.hid (row_stay HO16'.out HK16'.out (by decide) o)
      have HK17 : Hid (Blk V16 gs 74 #[.int .i64 num, .int .i64 size, .string st, .bool pr, .bool m.on, .bool m.good, .slice M m.row.length cm, .string sl, .int .i64 l.ps, .int .i64 l.ov, .slice none 0 0]) := Lib.hid k
      clear k o q D16' HK16' HO16'
      refine (D17.out.num G7.out.1 G7.out.2).mono ?_
      rintro e W17 ⟨rfl, d, o⟩
      have HK18 := Lib.hid (HK17.out.only o (by have := HGS.out.2.1; simp; omega))
      have D18 := Lib.hid d
      have HO18 : Hid (Own W17 gr (.slice M m.row.length cm) m.row.length m.row) := Lib.hid (by
        obtain ⟨cr, kr⟩ := D17.out.rdb
        exact row_stay HO17.out kr (by decide) o)
      clear d o HK17 D17 HO17
      have ht7l : t7.bs.length ≤ 20000 := D18.out.ln
      have HT7L := Lib.hid ht7l
      clear ht7l
      obtain ⟨NC, hNC⟩ : ∃ N, N = cnt.toNat := ⟨_, rfl⟩
      have HNC := Lib.hid hNC
      clear hNC
      go_wp2
      go_loopw [10] (fun i wr => ∃ (k : Nat) (tt : RD) (ch : List (List Nat)) (C : Option Addr) (cc : Nat), i = .int .i64 k ∧ InR w gr gh gs [.int .i64 nid, .int .i64 nsz, .int .i64 nob, .int .i64 nsq, .slice S acc.length cS, .bool false, .bool false, .slice none 0 0, .string ⟨#[]⟩, .int .i64 0, .int .i64 0, .int .i64 0, .int .i64 0, .int .i64 0] (fun v => #[.int .i64 num, .int .i64 size, .string st, .bool pr, .bool m.on, .bool m.good, .slice M m.row.length cm, .string sl, .int .i64 l.ps, .int .i64 l.ov, v]) NC t7 m M cm acc S cS k tt ch C cc wr) (fun i _ => 3000 - (intOf i).toNat)
      case atStart => exact ⟨0, t7, [], none, 0, rfl, rfl, Nat.zero_le _, rfl, rfl, D18.out, HK18.out, World.ownsRow_nil _ _ _ 1, fun c hc => (by cases hc), HO18.out⟩
      case round =>
        obtain ⟨k, tt, ch, C, cc, rfl, hI⟩ := hrel
        have HI := Lib.hid hI
        have hk9 := hI.few HT7L.out
        obtain ⟨A1, c1, kr, -⟩ := hI.D.rd
        have q1 : wr.cell? ⟨gr, 1, none⟩ = some (.bool tt.bad) := kr.cell 1
        obtain ⟨bd, hbd⟩ : ∃ x, x = tt.bad := ⟨_, rfl⟩
        rw [← hbd] at q1
        have HBD := Lib.hid hbd
        clear hI kr hbd D18 HK18 HO18
        go_upto_region 18 with (fail)
        go_cut [72] from 63 to 72 (fun v wx => ∃ x : Bool, v = .bool x ∧ (x = true ↔ k < NC ∧ bd = false) ∧ wr = wx)
        case first =>
          by_cases hlt : k < NC
          · have dl : decide ((k : Int) < cnt) = true := decide_eq_true (by have := HNC.out; omega)
            cases bd with
            | true =>
              go_wp2
              go_meet
              exact ⟨false, rfl, ⟨(fun h => by cases h), (fun h => by cases h.2)⟩, rfl⟩
            | false =>
              have HLT := Lib.hid hlt
              clear hlt
              go_wp2
              go_meet
              exact ⟨true, rfl, ⟨fun _ => ⟨HLT.out, by trivial⟩, fun _ => rfl⟩, rfl⟩
          · have dl : decide ((k : Int) < cnt) = false := decide_eq_false (by have := HNC.out; omega)
            have HLT := Lib.hid hlt
            clear hlt
            go_wp2
            go_meet
            exact ⟨false, rfl, ⟨(fun h => by cases h), (fun h => absurd h.1 HLT.out)⟩, rfl⟩
        obtain ⟨x, rfl, hx, hwc⟩ := hcut
        obtain rfl := hwc
        clear q1
        cases x with
        | true =>
          obtain ⟨hlt, hnb⟩ := hx.1 rfl
          have HGI := Lib.hid (And.intro hlt (HBD.out.symm.trans hnb))
          clear hx hlt hnb HBD
          obtain ⟨tb, htb⟩ : ∃ t, t = tt.bytesTo := ⟨_, rfl⟩
          obtain ⟨bs, hbs⟩ : ∃ t, t = tt.bytes := ⟨_, rfl⟩
          have G8 := Lib.hid (And.intro htb hbs)
          clear htb hbs
          have hwk : IntKind.i64.wrap ((k : Int) + 1) = (k : Int) + 1 := by rw [IntKind.wrap_i64]; omega
          have hdr : Below wr.heap.size wr wr.drew := (Below.refl _ wr).drew
          have hS : Blk wr.drew gs 74 #[.int .i64 num, .int .i64 size, .string st, .bool pr, .bool m.on, .bool m.good, .slice M m.row.length cm, .string sl, .int .i64 l.ps, .int .i64 l.ov, .slice C ch.length cc] := HI.out.K
          have DD : Hid (Dk w gr gr gh [.int .i64 nid, .int .i64 nsz, .int .i64 nob, .int .i64 nsq, .slice S acc.length cS, .bool false, .bool false, .slice none 0 0, .string ⟨#[]⟩, .int .i64 0, .int .i64 0, .int .i64 0, .int .i64 0, .int .i64 0] tt acc S cS wr.drew) := Lib.hid (HI.out.D.below hdr)
          go_upto_region 20 with (fail)
          refine any_beginL (fun W' => Blk W' gs 74 #[.int .i64 num, .int .i64 size, .string st, .bool pr, .bool m.on, .bool m.good, .slice M m.row.length cm, .string sl, .int .i64 l.ps, .int .i64 l.ov, .slice C ch.length cc]) 8 (by kernel_rfl) ?_
          refine L_take (i := 0) (v := .pointer (some ⟨gs, 10, none⟩)) rfl rfl (by kernel_rfl) (by kernel_rfl) (by kernel_rfl) (by kernel_rfl) (fun _ _ _ h => h) (Or.inl ⟨by rfl, fun W' hw => by go_simp⟩) hS ?_
          simp only [Act.put, List.getElem_toArray, List.getElem_cons_succ, List.getElem_cons_zero, List.setIfInBounds_toArray, List.set_cons_zero, List.set_cons_succ]
          refine L_take (i := 1) (v := .slice C ch.length cc) rfl rfl (by kernel_rfl) (by kernel_rfl) (by kernel_rfl) (by kernel_rfl) (fun _ _ _ h => h) (Or.inl ⟨by rfl, fun W' hw => by have k1 : W'.cell? ⟨gs, 10, none⟩ = some (.slice C ch.length cc) := hw.cell 10; go_simp⟩) hS ?_
          simp only [Act.put, List.getElem_toArray, List.getElem_cons_succ, List.getElem_cons_zero, List.setIfInBounds_toArray, List.set_cons_zero, List.set_cons_succ]
          refine L_take (i := 2) (v := .pointer (some ⟨gr, 0, none⟩)) rfl rfl (by kernel_rfl) (by kernel_rfl) (by kernel_rfl) (by kernel_rfl) (fun _ _ _ h => h) (Or.inl ⟨by rfl, fun W' hw => by go_simp⟩) hS ?_
          simp only [Act.put, List.getElem_toArray, List.getElem_cons_succ, List.getElem_cons_zero, List.setIfInBounds_toArray, List.set_cons_zero, List.set_cons_succ]
          refine L_one (j := 3) (by kernel_rfl) rfl (by rfl) ?_
          simp only [Act.put, List.getElem_toArray, List.getElem_cons_succ, List.getElem_cons_zero, List.setIfInBounds_toArray, List.set_cons_zero, List.set_cons_succ]
          refine wp_called (by go_simp) (DD.out.bytes G8.out.1 G8.out.2) ?_
          rintro e W3 ⟨A2, c2, rfl, hcv, hnlt, d, o⟩
          have hS := hS.only o (by have := HGS.out.2.1; simp; omega)
          have ho3 : W3.ownsRow gs 9 1 (.slice C ch.length cc) ch.length (strs ch) := by
            obtain ⟨cr, kr⟩ := DD.out.rdb
            exact row_stay (own_below HI.out.own hdr) kr (by decide) o
          have hm3 : Own W3 gr (.slice M m.row.length cm) m.row.length m.row := by
            obtain ⟨cr, kr⟩ := DD.out.rdb
            exact row_stay (own_below HI.out.mrk hdr) kr (by decide) o
          have hgs3 : gs < W3.heap.size := hS.lt
          refine ⟨_, rfl, hS, ?_⟩
          simp only [Act.put, List.getElem_toArray, List.getElem_cons_succ, List.getElem_cons_zero, List.setIfInBounds_toArray, List.set_cons_zero, List.set_cons_succ]
          have hc2 := hcv c2
          refine L_one (j := 4) (by kernel_rfl) rfl (by rfl) ?_
          simp only [Act.put, List.getElem_toArray, List.getElem_cons_succ, List.getElem_cons_zero, List.setIfInBounds_toArray, List.set_cons_zero, List.set_cons_succ]
          refine wp_ran (v := .string (strOf bs)) (w' := W3) (by go_simp) ⟨hS, ?_⟩
          simp only [Act.put, List.getElem_toArray, List.getElem_cons_succ, List.getElem_cons_zero, List.setIfInBounds_toArray, List.set_cons_zero, List.set_cons_succ]
          refine L_one (j := 5) (by kernel_rfl) rfl (by rfl) ?_
          simp only [Act.put, List.getElem_toArray, List.getElem_cons_succ, List.getElem_cons_zero, List.setIfInBounds_toArray, List.set_cons_zero, List.set_cons_succ]
          obtain ⟨W5, hW5⟩ : ∃ W', W' = World.alloc W3 (.cells #[.string (strOf bs)] 9) := ⟨_, rfl⟩
          have b5 : Below W3.heap.size W3 W5 := by rw [hW5]; exact below_alloc W3 _
          have hn5 : Reads W5 (W3.heap.size + 1) 1 (some ⟨W3.heap.size, 0, none⟩) 1 (strs [bs]) := by rw [hW5]; exact Reads.newN W3 (strs [bs]) 1 1 9 (0, 0) rfl
          have hS := hS.of (b5.block _ hS.lt)
          refine wp_ran (v := .slice (some ⟨W3.heap.size, 0, none⟩) 1 1) (w' := W5) (by rw [hW5]; go_simp) ⟨hS, ?_⟩
          simp only [Act.put, List.getElem_toArray, List.getElem_cons_succ, List.getElem_cons_zero, List.setIfInBounds_toArray, List.set_cons_zero, List.set_cons_succ]
          refine L_one (j := 6) (by kernel_rfl) rfl (by rfl) ?_
          simp only [Act.put, List.getElem_toArray, List.getElem_cons_succ, List.getElem_cons_zero, List.setIfInBounds_toArray, List.set_cons_zero, List.set_cons_succ]
          obtain ⟨i0, hi0, hz0', hz1', hz2'⟩ := info_parts str_info
          refine wp_append_any _ (.tmp 76) (.tmp 80) 64 rfl gs 9 i0 _ 1 16 Try.underlying64 hi0 hz0' hz1' hz2' rfl (by omega) (.slice C ch.length cc) ch.length (strs ch) rfl (own_below ho3 b5) (W3.heap.size + 1) (some ⟨W3.heap.size, 0, none⟩) 1 1 (strs [bs]) rfl hn5 (strs_one _) (by have := HI.out.len; simp only [maxLen]; omega) (by have := HI.out.len; omega) (by have := b5.size; omega) ?_
          intro v6 W6 h6 g6 a6
          obtain ⟨A6, c6, rfl⟩ := own_form h6
          have ho5 := own_below ho3 b5
          have d6 := (d.below b5).grow ho5 g6 HGS.out.1 HAC.out
          have hS6 := hS.of (g6.block gs hS.lt (fun e => own_blk_ne ho5 hS (by decide) e.symm))
          have hm6 : Own W6 gr (.slice M m.row.length cm) m.row.length m.row := own_grow_ne9 (own_below hm3 b5) ho5 (by decide) g6
          have hS := hS6
          refine ⟨hS, ?_⟩
          simp only [Act.put, List.getElem_toArray, List.getElem_cons_succ, List.getElem_cons_zero, List.setIfInBounds_toArray, List.set_cons_zero, List.set_cons_succ]
          refine L_take (i := 7) (v := .pointer (some ⟨gs, 10, none⟩)) rfl rfl (by kernel_rfl) (by kernel_rfl) (by kernel_rfl) (by kernel_rfl) (fun _ _ _ h => h) (Or.inl ⟨by rfl, fun W' hw => by go_simp⟩) hS ?_
          simp only [Act.put, List.getElem_toArray, List.getElem_cons_succ, List.getElem_cons_zero, List.setIfInBounds_toArray, List.set_cons_zero, List.set_cons_succ]
          refine L_last (by kernel_rfl) rfl (by rfl) (by kernel_rfl) ?_
          simp only [Act.put, List.getElem_toArray, List.getElem_cons_succ, List.getElem_cons_zero, List.setIfInBounds_toArray, List.set_cons_zero, List.set_cons_succ]
          refine wp_setq 64 (.tmp 82) (.tmp 81) rfl gs 10 74 _ (.slice A6 (ch.length + 1) c6) rfl rfl hS (by simp) (by kernel_rfl) rfl ?_
          intro W8 K8 o8 s8
          refine NoPanic.normal ?_
          have HE : Hid (InR w gr gh gs [.int .i64 nid, .int .i64 nsz, .int .i64 nob, .int .i64 nsq, .slice S acc.length cS, .bool false, .bool false, .slice none 0 0, .string ⟨#[]⟩, .int .i64 0, .int .i64 0, .int .i64 0, .int .i64 0, .int .i64 0] (fun v => #[.int .i64 num, .int .i64 size, .string st, .bool pr, .bool m.on, .bool m.good, .slice M m.row.length cm, .string sl, .int .i64 l.ps, .int .i64 l.ov, v]) NC t7 m M cm acc S cS (k + 1) tb (ch ++ [bs]) A6 c6 W8) := Lib.hid (by
            obtain ⟨e1, e2⟩ := dchL_go (k := NC - k) (s := tt) (by have := HGI.out.1; omega) HGI.out.2
            have h8 : W8.ownsRow gs 9 1 (.slice A6 (ch.length + 1) c6) (ch.length + 1) (strs ch ++ strs [bs]) := row_stay h6 hS (by decide) o8
            have hl8 : (ch ++ [bs]).length = ch.length + 1 := by simp
            refine ⟨by rw [hl8, HI.out.len], by have := HGI.out.1; omega, ?_, ?_, d6.sets hS o8 HGS.out.1 HGS.out.2.1 HGS.out.2.2.1 HGS.out.2.2.2, ?_, ?_, ?_, row_stay hm6 hS (by decide) o8⟩
            · rw [HI.out.all, e1, ← G8.out.1, ← G8.out.2, show NC - k - 1 = NC - (k + 1) by omega, List.append_assoc]; rfl
            · rw [HI.out.fin, e2, ← G8.out.1, show NC - k - 1 = NC - (k + 1) by omega]
            · rw [hl8]; exact K8
            · rw [hl8]; unfold strs at h8 ⊢; rw [List.map_append]; exact h8
            · intro c hc
              rcases List.mem_append.1 hc with hc | hc
              · exact HI.out.lt c hc
              · simp only [List.mem_singleton] at hc; subst hc; exact hnlt)
          clear hS hS6 d6 ho5 h6 g6 a6 hm6 K8 o8 s8 hn5 b5 hW5 hc2 hcv hnlt d o ho3 hm3 hgs3 DD hi0 hz0' hz1' hz2' hdr
          go_wp2
          exact ⟨⟨k + 1, tb, ch ++ [bs], A6, c6, by go_num, HE.out⟩, by simp only [intOf]; omega⟩
        | false =>
          have hstop : NC - k = 0 ∨ tt.bad = true := by
            by_cases h : k < NC
            · right
              cases hb : tt.bad with
              | true => rfl
              | false =>
                have := hx.2 ⟨h, HBD.out.trans hb⟩
                cases this
            · left; omega
          obtain ⟨e1, e2⟩ := dchL_stop hstop
          have hch : RD.dchL cnt.toNat t7 = ch := by rw [← HNC.out, HI.out.all, e1, List.append_nil]
          have HV : Hid (s.dsnv = (⟨num, name, pr, ⟨size, m.on, m.good, m.row, M, cm, l.par, l.ps, l.ov⟩, ch, C, cc⟩ : SA).v ∧ s.dsnTo = tt) := Lib.hid (by
            obtain ⟨f1, f2⟩ := dsnv_of G1.out G2.out G3.out G4.out G5.out G6.out G7.out hch
            exact ⟨f1, by rw [f2, ← HNC.out, HI.out.fin, e2]⟩)
          clear hx hstop e1 e2 hch HBD
          have hst := HST.out.1
          have hsl := HSL.out
          subst hst hsl
          have hsl0 : s.bs.length ≤ 20000 := HR.out.2.2.2.2.ln
          have HX : Hid ((⟨num, name, pr, ⟨size, m.on, m.good, m.row, M, cm, l.par, l.ps, l.ov⟩, ch, C, cc⟩ : SA).N wr gr []) := Lib.hid (by
            have h1 : t1.bs.length ≤ s.bs.length := by rw [G1.out.1]; exact take_ln _ _
            have h2 : t2.bs.length ≤ t1.bs.length := by rw [G2.out.1]; exact bytesTo_ln _
            have h3 : t3.bs.length ≤ t2.bs.length := by rw [G3.out.1]; exact take_ln _ _
            have h4 : t4.bs.length ≤ t3.bs.length := by rw [G4.out.1]; exact mkTo_ln _
            have h5 : l.par.length ≤ t4.bs.length := by rw [G5.out.2]; exact bytes_ln _
            have h6 : name.length ≤ t1.bs.length := by rw [G2.out.2]; exact bytes_ln _
            refine ⟨⟨HI.out.mrk, fun _ _ h => (by cases h), HML.out, HLL.out, (by show I64 size; rw [G3.out.2]; exact num_range _), (by show I64 l.ps; rw [G5.out.2]; exact num_range _), (by show I64 l.ov; rw [G5.out.2]; exact num_range _), (by show l.par.length ≤ 1000000; omega)⟩, row_weaken HI.out.own HGS.out.1, fun _ _ h => (by cases h), HI.out.lt, HST.out.2, (by show I64 num; rw [G1.out.2]; exact num_range _), (by show name.length ≤ 1000000; omega)⟩)
          have q4 : wr.cell? ⟨gh, 4, none⟩ = some (.slice S acc.length cS) := HI.out.D.hd.cell 4
          have K21 : Blk wr gs 74 [.int .i64 num, .int .i64 size, .string (strOf name), .bool pr, .bool m.on, .bool m.good, .slice M m.row.length cm, .string (strOf l.par), .int .i64 l.ps, .int .i64 l.ov, .slice C ch.length cc].toArray := HI.out.K
          have hwj : IntKind.i64.wrap ((j : Int) + 1) = (j : Int) + 1 := by rw [IntKind.wrap_i64]; omega
          have ha9 : acc.length ≤ 900 := by have := HR.out.1; omega
          obtain ⟨i0, hi0, hz0', hz1', hz2'⟩ := info_parts dsnap_info
          have b5 : Below wr.heap.size wr (wr.alloc (.cells #[.int .i64 num, .int .i64 size, .string (strOf name), .bool pr, .bool m.on, .bool m.good, .slice M m.row.length cm, .string (strOf l.par), .int .i64 l.ps, .int .i64 l.ov, .slice C ch.length cc] 74)) := below_alloc wr _
          have HAP : Hid ((wr.alloc (.cells #[.int .i64 num, .int .i64 size, .string (strOf name), .bool pr, .bool m.on, .bool m.good, .slice M m.row.length cm, .string (strOf l.par), .int .i64 l.ps, .int .i64 l.ov, .slice C ch.length cc] 74)).ownsRow gr 74 11 (.slice S acc.length cS) acc.length (acc.flatMap SA.dcells) ∧ Reads (wr.alloc (.cells #[.int .i64 num, .int .i64 size, .string (strOf name), .bool pr, .bool m.on, .bool m.good, .slice M m.row.length cm, .string (strOf l.par), .int .i64 l.ps, .int .i64 l.ov, .slice C ch.length cc] 74)) (wr.heap.size + 1) 11 (some ⟨wr.heap.size, 0, none⟩) 1 (⟨num, name, pr, ⟨size, m.on, m.good, m.row, M, cm, l.par, l.ps, l.ov⟩, ch, C, cc⟩ : SA).dcells) := Lib.hid ⟨own_below HI.out.D.own b5, Reads.newN wr (⟨num, name, pr, ⟨size, m.on, m.good, m.row, M, cm, l.par, l.ps, l.ov⟩, ch, C, cc⟩ : SA).dcells 1 11 74 (0, 0) rfl⟩
          have HD5 := Lib.hid (HI.out.D.below b5)
          have HX5 := Lib.hid (HX.out.below b5)
          have hc4 : gr ≤ (wr.alloc (.cells #[.int .i64 num, .int .i64 size, .string (strOf name), .bool pr, .bool m.on, .bool m.good, .slice M m.row.length cm, .string (strOf l.par), .int .i64 l.ps, .int .i64 l.ov, .slice C ch.length cc] 74)).heap.size := HD5.out.c4
          clear b5
          go_upto_region 21 with (fail)
          go_wp2_with (first
            | (have _h := K21; refine wpList_loadq rfl 74 (.tmp 8) rfl (gs) [.int .i64 num, .int .i64 size, .string (strOf name), .bool pr, .bool m.on, .bool m.good, .slice M m.row.length cm, .string (strOf l.par), .int .i64 l.ps, .int .i64 l.ov, .slice C ch.length cc] _ rfl K21 Try.underlying74 rfl (by kernel_rfl) ?_; clear _h K21)
            | (have _h := HAP; refine wpList_append_any (wr.alloc (.cells #[.int .i64 num, .int .i64 size, .string (strOf name), .bool pr, .bool m.on, .bool m.good, .slice M m.row.length cm, .string (strOf l.par), .int .i64 l.ps, .int .i64 l.ov, .slice C ch.length cc] 74)) rfl (.tmp 84) (.tmp 86) 22 rfl gr 74 i0 _ 11 128 Try.underlying22 hi0 hz0' hz1' hz2' rfl (by omega) (.slice S acc.length cS) acc.length (acc.flatMap SA.dcells) rfl HAP.out.1 (wr.heap.size + 1) (some ⟨wr.heap.size, 0, none⟩) 1 1 (⟨num, name, pr, ⟨size, m.on, m.good, m.row, M, cm, l.par, l.ps, l.ov⟩, ch, C, cc⟩ : SA).dcells rfl HAP.out.2 (SA.dcells_one _) (by simp only [maxLen]; omega) (by omega) hc4 ?_; clear _h HAP; intro v6 W6 h6 g6 a6; obtain ⟨A6, c6, rfl⟩ := own_form h6; have D6 := Lib.hid (HD5.out.snoc HX5.out h6 g6); clear h6 g6 a6; have K22 := D6.out.hd)
            | (have _h := K22; refine wpList_setq rfl 22 (.tmp 88) (.tmp 87) rfl gh 4 29 _ (.slice A6 (acc.length + 1) c6) rfl rfl K22 (by simp) (by kernel_rfl) rfl ?_; clear _h K22; intro W7 K7 o7 s7))
          have hl9 : (acc ++ [(⟨num, name, pr, ⟨size, m.on, m.good, m.row, M, cm, l.par, l.ps, l.ov⟩, ch, C, cc⟩ : SA)]).length = acc.length + 1 := by simp
          have HE : Hid (OutR w gr gh nid nsz nob nsq N u5 (j + 1) tt (acc ++ [(⟨num, name, pr, ⟨size, m.on, m.good, m.row, M, cm, l.par, l.ps, l.ov⟩, ch, C, cc⟩ : SA)]) A6 c6 W7) := Lib.hid (by
            obtain ⟨r1, r2, r3, r4, r5⟩ := HR.out
            obtain ⟨f1, f2⟩ := dsnL_go (k := N - j) (s := s) (by have := HGO.out.1; omega) HGO.out.2
            refine ⟨by rw [hl9, r1], HGO.out.1, ?_, ?_, ?_⟩
            · rw [r3, f1, HV.out.1, HV.out.2, show N - j - 1 = N - (j + 1) by omega, List.map_append, List.append_assoc]; rfl
            · rw [r4, f2, HV.out.2, show N - j - 1 = N - (j + 1) by omega]
            · rw [hl9]; exact D6.out.seth o7 K7)
          clear K7 o7 s7 D6 hl9
          go_wp2
          exact ⟨⟨j + 1, tt, acc ++ [(⟨num, name, pr, ⟨size, m.on, m.good, m.row, M, cm, l.par, l.ps, l.ov⟩, ch, C, cc⟩ : SA)], A6, c6, by go_num, HE.out⟩, by simp only [intOf]; omega⟩
end Go.Proofs.Ytgddenhnpjoabaa
