/-
  The law's fixed fact. No condition.
-/
import Derived.Test.YtldnghmgdmjljaaHn
namespace Go.Proofs.Ytldnghmgdmjljaa
open Go.RowKit Go.BigFrame
set_option linter.unusedSimpArgs false
set_option linter.unusedVariables false
set_option maxRecDepth 100000
theorem four_steps {s0 s1 s2 s3 s4 s5 : RD} {id size obj seq n : Int} (a : s0.take 8 = s1 ∧ s0.num = id) (b : s1.take 8 = s2 ∧ s1.num = size) (c : s2.take 8 = s3 ∧ s2.num = obj) (d : s3.take 8 = s4 ∧ s3.num = seq) (f : s4.take 8 = s5 ∧ s4.num = n) : s0.four.num = n := by
  have q0 : s0.four = s4 := by unfold RD.four; rw [a.1, b.1, c.1, d.1]
  rw [q0, f.2]
theorem four_mid {a b : List Nat} {n : Int} (e : a = b) (h : (⟨b, false⟩ : RD).four.num = n) : (⟨a, false⟩ : RD).four.num = n := by rw [e]; exact h
theorem four_back (h : HdV) (hk : h.Ok) : (⟨h.put, false⟩ : RD).four.num = (h.sn.length : Nat) :=
  four_mid (hd_put h) (four_steps (take_num h.id _ hk.id) (take_num h.size _ hk.size) (take_num h.obj _ hk.obj) (take_num h.seq _ hk.seq) (take_num (h.sn.length : Nat) _ (by have := hk.cn; unfold I64; omega)))
def a0 : HA := ⟨0, 16, 0, none, 0, [], ⟨0, false, false, [], none, 0, [], 0, 0⟩, -1, 0, 0⟩
theorem a0_R (w : World) : a0.R SA.cells w :=
  ⟨⟨⟨Reads.none_, fun b hb => (by cases hb)⟩, fun b hb => (by cases hb), by unfold I64; decide, by unfold I64; decide, by unfold I64; decide, by decide, by decide, by decide⟩, Reads.none_, fun s hs => (by cases hs), by unfold I64; decide, by unfold I64; decide, by unfold I64; decide, by unfold I64; decide, by unfold I64; decide, by unfold I64; decide, by decide, by decide⟩
theorem a0_Sm : a0.Sm := ⟨⟨by decide, by decide⟩, by decide, fun s hs => (by cases hs)⟩
theorem a0_B : a0.v.B = true := by decide
theorem a0_Ok : a0.v.Ok := ⟨by unfold I64; decide, by unfold I64; decide, by unfold I64; decide, by unfold I64; decide, fun s hs => (by cases hs), by decide, ⟨⟨by decide, fun x hx => (by cases hx)⟩⟩, ⟨by decide, by unfold I64; decide, by unfold I64; decide⟩, by unfold I64; decide, by unfold I64; decide, by unfold I64; decide⟩
theorem a0_len : a0.v.put.length = 100 := by
  simp only [HdV.put, putVw, putMk, putLk, txt, flagB, List.length_append, numB_len, List.length_singleton, putM_len]
  rfl
theorem sm_of (a : HA) (h : a.v = a0.v) : a.Sm := by
  have h1 : a.sn.map SA.v = [] := congrArg HdV.sn h
  have h2 : a.sn = [] := by simpa using h1
  have h3 : a.vw.row = [] := congrArg (fun x => x.mx.row) h
  have h4 : a.vw.par = [] := congrArg (fun x => x.lk.par) h
  exact ⟨⟨by rw [h3]; decide, by rw [h4]; decide⟩, by rw [h2]; decide, fun s hs => (by rw [h2] at hs; cases hs)⟩
set_option maxHeartbeats 4000000 in
theorem halive_any (w : World) : Calls Try.prog 7 #[] w fun e w' => e = .returned (.bool true) ∧ Below w.heap.size w w' := by
  have HP := Lib.hid (hput_any (w := w) a0 (a0_R w) a0_Sm)
  have hcs : a0.cs = #[.int .i64 0, .int .i64 0, .int .i64 16, .int .i64 0, .slice none 0 0, .bool false, .bool false, .slice none 0 0, .string ⟨#[]⟩, .int .i64 0, .int .i64 0, .int .i64 (-1), .int .i64 0, .int .i64 0] := rfl
  rw [hcs] at HP
  have HB := Lib.hid a0_B
  have hln := a0_len
  obtain ⟨v0, hv0⟩ : ∃ v0, v0 = a0.v := ⟨_, rfl⟩
  rw [← hv0] at HP HB hln
  have hbk := hd_back a0.v a0_Ok
  have hfb := four_back a0.v a0_Ok
  have hsm := sm_of
  rw [← hv0] at hbk hfb hsm
  have HBK := Lib.hid (And.intro hbk.2 (And.intro hfb hsm))
  have HV0 := Lib.hid hv0
  have hz := head_zero
  clear hv0 hbk hfb hsm hcs
  go_enter Try.func7, Try.ntmps7
  go_wp2_with fail
  refine HP.out.mono ?_
  rintro e w1 ⟨b1, ⟨hB, p, rfl, hp⟩ | ⟨hB, rfl⟩⟩
  · obtain ⟨Ap, cp, rfl⟩ := own_form hp
    rw [hln] at hp ⊢
    have hpb : ∀ x ∈ v0.put, x < 256 := by
      rw [HV0.out]
      exact hput_lt a0_B (fun b hb => (by cases hb)) (fun s hs => (by cases hs))
    have HT := Lib.hid (htake_any Ap 100 cp v0.put w1 (hp.bytes hpb) (by omega) (fun w1 base F p hr hB => thead0_any w1 base F p ⟨v0.put, false⟩ hr hB (by show v0.put.length ≤ 1000000; omega) (by rw [HBK.out.2.1, HV0.out]; rfl)) (fun a ha => HBK.out.2.2 a (by rw [ha, HBK.out.1])))
    have HB1 := Lib.hid b1
    have hT : TakeH v0.put := ⟨by rw [HBK.out.1]; exact HB.out, by rw [HBK.out.1]⟩
    have HTK := Lib.hid hT
    clear b1 hB hp hpb hT HP
    go_wp2_with fail
    refine HT.out.mono ?_
    rintro e w2 ⟨b2, ⟨-, a, rfl, hav, hN⟩ | ⟨hno, rfl⟩⟩
    · have e1 : a.obj = 16 := by have := congrArg HdV.obj hav; rw [HBK.out.1, HV0.out] at this; exact this
      have e2 : a.ow = -1 := by have := congrArg HdV.ow hav; rw [HBK.out.1, HV0.out] at this; exact this
      have HB2 := Lib.hid (HB1.out.trans (b2.mono HB1.out.size))
      have HO := Lib.hid (fun w => objects_any 33 16 (by unfold I64; decide) (by unfold I64; decide) w)
      rw [show objsOf 33 16 = 3 from by decide] at HO
      unfold HA.cs
      rw [e1, e2]
      clear b2 hav hN HT e1 e2
      go_wp2_with fail
      refine (HO.out _).mono ?_
      rintro e w3 ⟨rfl, rfl⟩
      go_wp2
      go_ret
      exact ⟨rfl, HB2.out.alloc HB2.out.size _⟩
    · exact absurd HTK.out hno
  · rw [HB.out] at hB
    cases hB
end Go.Proofs.Ytldnghmgdmjljaa
