/- 'OpenShort': no beginning of a body says anything. -/
import Derived.Test.YthpadbeilecpeaaO9
import Derived.Test.YthpadbeilecpeaaOC
namespace Go.Proofs.Ythpadbeilecpeaa
open Go.RowKit

theorem short_no (asn hold id paths n : Int) (four : Bool) (w : World) (hk : okO ⟨asn, hold, id, four, paths⟩ = false) :
    Calls Try.prog 5 #[.agg #[.int .i64 asn, .int .i64 hold, .int .u32 id, .bool four, .int .i64 paths], .int .i64 n] w fun e w' => e = .returned (.bool true) ∧ Below w.heap.size w w' := by
  have HR := fun v : World => Lib.hid (rcheck_no asn hold id paths four v hk)
  have H0 := Lib.hid (new_below w (.cells #[.int .i64 asn, .int .i64 hold, .int .u32 id, .bool four, .int .i64 paths] 24))
  clear hk
  go_enter Try.func5, Try.ntmps5
  go_wp2_with fail
  (with_reducible refine (HR _).out.mono ?_); rintro e w1 ⟨rfl, hb⟩
  have HB1 := Lib.hid (H0.out.trans (hb.mono H0.out.size))
  have HL := Lib.hid (lives_any w1)
  clear hb HR
  go_wp2_with fail
  refine HL.out.mono ?_; rintro e w2 ⟨rfl, hb⟩
  have HB2 := Lib.hid (HB1.out.trans (hb.mono HB1.out.size))
  clear hb
  go_wp2_with fail
  go_ret
  exact ⟨rfl, HB2.out⟩

set_option maxHeartbeats 1000000 in
theorem short_yes (asn hold id paths n : Int) (four : Bool) (w : World) (i0 : 0 ≤ id) (i1 : id ≤ 4294967295) (hk : okO ⟨asn, hold, id, four, paths⟩ = true) :
    Calls Try.prog 5 #[.agg #[.int .i64 asn, .int .i64 hold, .int .u32 id, .bool four, .int .i64 paths], .int .i64 n] w fun e w' => e = .returned (.bool true) ∧ Below w.heap.size w w' := by
  have HR := fun v : World => Lib.hid (rcheck_yes asn hold id paths four v hk)
  have H0 := Lib.hid (new_below w (.cells #[.int .i64 asn, .int .i64 hold, .int .u32 id, .bool four, .int .i64 paths] 24))
  have K0 := Lib.hid (Blk.new w 24 [.int .i64 asn, .int .i64 hold, .int .u32 id, .bool four, .int .i64 paths])
  have HF := Lib.hid (okO_fit hk i0 i1)
  have hcl := caps_len (o := ⟨asn, hold, id, four, paths⟩)
  obtain ⟨pl, hpl⟩ : ∃ pl, (putO ⟨asn, hold, id, four, paths⟩).length = pl := ⟨_, rfl⟩
  have hple : pl ≤ 1000 := by rw [← hpl]; unfold putO saidO; simp [front_len]; omega
  have HPL := Lib.hid hpl
  have HP := fun v : World => Lib.hid (put_as rfl hpl v HF.out hk)
  have HSH := Lib.hid (fun k hk' => getO_short (o := ⟨asn, hold, id, four, paths⟩) k hk')
  have HQ := open_eql 0 0 0 0 false
  have hg := open_eqGuard
  clear hk hcl hpl
  go_enter Try.func5, Try.ntmps5
  go_wp2_with fail
  (with_reducible refine (HR _).out.mono ?_); rintro e w1 ⟨rfl, hb⟩
  have HB1 := Lib.hid (H0.out.trans (hb.mono H0.out.size))
  have K1 := Lib.hid (K0.out.next hb)
  have k0 := K1.out.cell 0 (by simp)
  have k1 := K1.out.cell 1 (by simp)
  have k2 := K1.out.cell 2 (by simp)
  have k3 := K1.out.cell 3 (by simp)
  have k4 := K1.out.cell 4 (by simp)
  clear hb HR H0 K0
  go_wp2_with fail
  (with_reducible refine (HP _).out.mono ?_); rintro e w2 ⟨p, cap, rfl, hO, hb⟩
  have HB2 := Lib.hid (HB1.out.trans (hb.mono HB1.out.size))
  have O2 := Lib.hid hO
  have HL := Lib.hid (lives_any w2)
  clear hb hO HP HB1 K1 k0 k1 k2 k3 k4
  go_wp2_with fail
  refine HL.out.mono ?_; rintro e w3 ⟨rfl, hb⟩
  have HB3 := Lib.hid (HB2.out.trans (hb.mono HB2.out.size))
  have O3 := Lib.hid (O2.out.below hb)
  have HL3 := Lib.hid (lives_any w3)
  clear hb HL HB2 O2
  by_cases hn0 : n < 0
  · go_wp2_with fail
    refine HL3.out.mono ?_; rintro e w4 ⟨rfl, hb⟩
    have HB4 := Lib.hid (HB3.out.trans (hb.mono HB3.out.size))
    clear hb
    go_wp2_with fail
    go_ret
    exact ⟨rfl, HB4.out⟩
  · have hn0' : 0 ≤ n := by omega
    obtain ⟨m, rfl⟩ := Int.eq_ofNat_of_zero_le hn0'
    clear hn0 hn0'
    by_cases hge : pl ≤ m
    · go_wp2_with fail
      refine HL3.out.mono ?_; rintro e w4 ⟨rfl, hb⟩
      have HB4 := Lib.hid (HB3.out.trans (hb.mono HB3.out.size))
      clear hb
      go_wp2_with fail
      go_ret
      exact ⟨rfl, HB4.out⟩
    · have hcap : pl ≤ cap := by have := O3.out.le; rw [HPL.out] at this; exact this
      have E1 := fun w => run_cut_h w p pl cap (m : Int) m rfl (by omega)
      have BC := Lib.hid (O3.out.bytes.cut cap 0 m (by omega) (by rw [HPL.out]; omega) O3.out.le)
      rw [List.drop_zero] at BC
      obtain ⟨p0, hp0⟩ : ∃ p0, cutP p cap 0 = p0 := ⟨_, rfl⟩
      rw [hp0] at E1 BC
      have hs := HSH.out m (by rw [HPL.out]; omega)
      obtain ⟨⟨⟨a1, a2, a3, a4, a5⟩, code, sub, data⟩, hA⟩ : ∃ A, getO ((putO ⟨asn, hold, id, four, paths⟩).take m) = A := ⟨_, rfl⟩
      rw [hA] at hs
      simp only [Op.zero, Op.mk.injEq] at hs
      obtain ⟨⟨rfl, rfl, rfl, rfl, rfl⟩, rfl⟩ := hs
      have HG := Lib.hid (get_as hA p0 m cap data.length w3 BC.out (by rw [List.length_take, HPL.out]; omega) (by omega) rfl)
      clear hA hp0
      go_wp2_with fail
      refine HG.out.mono ?_; rintro e w4 ⟨q4, cap4, rfl, hO, hb⟩
      have h5 := two_below w4 (.cells #[.int .i64 0, .int .i64 0, .int .u32 0, .bool false, .int .i64 0] 24) (.cells #[.int .i64 2, .int .i64 sub, .slice q4 data.length cap4] 30)
      have HB5 := Lib.hid (HB3.out.trans ((hb.trans (h5.mono hb.size)).mono HB3.out.size))
      clear hO hb h5 HG
      go_wp2_with fail
      go_ret
      exact ⟨rfl, HB5.out⟩

theorem short_walk (w : World) (o : Op) (ho : 0 ≤ o.id ∧ o.id ≤ 4294967295) (n : Int) (_ : (Lit.int .i64 n).wf = true) :
    Calls Try.prog 5 #[.agg #[.int .i64 o.asn, .int .i64 o.hold, .int .u32 o.id, .bool o.four, .int .i64 o.paths], .int .i64 n] w fun e w' => e = .returned (.bool true) ∧ Below w.heap.size w w' := by
  obtain ⟨asn, hold, id, four, paths⟩ := o
  rcases hk : okO ⟨asn, hold, id, four, paths⟩ with _ | _
  · exact short_no asn hold id paths n four w hk
  · exact short_yes asn hold id paths n four w ho.1 ho.2 hk
end Go.Proofs.Ythpadbeilecpeaa
