/- table: lives. -/
import Derived.Test.YtjimnlpmmhcdjaaIB
namespace Go.Proofs.Ytjimnlpmmhcdjaa
open Go.RowKit Go.Maps Go.Sort
set_option linter.unusedVariables false
set_option linter.unusedSimpArgs false
set_option maxRecDepth 100000

def v1 : Dt := ⟨1, ⟨167837696, 16⟩, 2, 9⟩
def v2 : Dt := ⟨1, ⟨167903232, 16⟩, 2, 5⟩
def v7 : Dt := ⟨1, ⟨168230912, 16⟩, 2, 1⟩
def v0 : Dt := ⟨0, ⟨0, 40⟩, 0, 0⟩
theorem lv_s2 : setR v2 [] = (0, [v2]) := by decide +kernel
theorem lv_s1 : setR v1 [v2] = (0, [v1, v2]) := by decide +kernel
theorem lv_s0 : setR v0 [v1, v2] = (20, [v1, v2]) := by decide +kernel
theorem lv_s7 : setR v7 [] = (0, [v7]) := by decide +kernel
theorem lv_o5 : overD 5 [v1, v2] = [] ∧ leftD 5 [v1, v2] = [v1, v2] := by decide +kernel
theorem lv_o6 : overD 6 [v1, v2] = [v2] ∧ leftD 6 [v1, v2] = [v1] := by decide +kernel
theorem lv_g : lookD [v1] ⟨167837696, 16⟩ = some v1 := by decide +kernel
theorem lv_d : delD ⟨167837696, 16⟩ [v1] = [] := by decide +kernel
/-- Beside a law's world. -/
structure TLv (w W : World) (g b n : Nat) (L : List Dt) : Prop where
  intro ::
  bel : Below w.heap.size w W
  tab : TbAt W g b n L
  lo : w.heap.size ≤ b
theorem TLv.next {w W W' : World} {g b n : Nat} {L : List Dt} (h : TLv w W g b n L) (hb : Below W.heap.size W W') : TLv w W' g b n L := ⟨h.bel.trans (hb.mono h.bel.size), h.tab.next hb, h.lo⟩
theorem TLv.turn {w W W' : World} {g b n n' : Nat} {L L' : List Dt} (h : TLv w W g b n L) (hT : Turns (fun k => k = b) W W') (ht : TbAt W' g b n' L') : TLv w W' g b n' L' :=
  ⟨h.bel.trans (hT.below h.bel.size fun k hk => by have := h.lo; have hk : k = b := hk; omega), ht, h.lo⟩
/-- A list that a table told. -/
structure TL (W : World) (b : Nat) (q : Option Addr) (l : List Dt) : Prop where
  intro ::
  at_ : DtsAt W q l
  lo : ∀ r off, q = some ⟨r, off, none⟩ → b < r
theorem TL.next {W W' : World} {b : Nat} {q : Option Addr} {l : List Dt} (h : TL W b q l) (hb : Below W.heap.size W W') : TL W' b q l := ⟨h.at_.below hb, h.lo⟩
theorem TL.turn {W W' : World} {b : Nat} {q : Option Addr} {l : List Dt} (h : TL W b q l) (hT : Turns (fun k => k = b) W W') : TL W' b q l := ⟨h.at_.turns hT fun r off e => by have := h.lo r off e; omega, h.lo⟩
theorem lset {w W : World} {g b n : Nat} {L : List Dt} (H : TLv w W g b n L) (o : Dt) (ho : InDt o) (hn : n < 1000) {r : Int} {L' : List Dt} (hr : setR o L = (r, L')) :
    Calls Try.prog 9 #[.pointer (some ⟨g, 0, none⟩), dtV o] W fun e W' => e = .returned (.int .i64 r) ∧ ∃ n', n' ≤ n + 1 ∧ TLv w W' g b n' L' ∧ Turns (fun k => k = b) W W' := by
  have h := tbset_any W g b n L H.tab o ho (by omega)
  rw [hr] at h
  refine h.mono ?_
  rintro e W' ⟨he, n', h1, h2, h3⟩
  exact ⟨he, n', h1, H.turn h3 h2, h3⟩
theorem lall {w W : World} {g b n : Nat} {L : List Dt} (H : TLv w W g b n L) (hn : n < 1000000) :
    Calls Try.prog 19 #[.pointer (some ⟨g, 0, none⟩)] W fun e W' => ∃ q c, e = .returned (.slice q L.length c) ∧ TL W' b q L ∧ TLv w W' g b n L ∧ Below W.heap.size W W' ∧ L.length ≤ c ∧ c ≤ maxLen := by
  refine (tball2_any W g b n L H.tab hn).mono ?_
  rintro e W' ⟨q, c, he, h1, h2, h3, h4, h5⟩
  exact ⟨q, c, he, ⟨h1, fun r off e => by have := h5 r off e; have := H.tab.lt; omega⟩, H.next h4, h4, h2, h3⟩
theorem lexp {w W : World} {g b n : Nat} {L : List Dt} (H : TLv w W g b n L) (hn : n < 1000000) (now : Int) :
    Calls Try.prog 14 #[.pointer (some ⟨g, 0, none⟩), .int .i64 now] W fun e W' => ∃ q c, e = .returned (.slice q (overD now L).length c) ∧ TL W' b q (overD now L) ∧ TLv w W' g b n (leftD now L) ∧ Turns (fun k => k = b) W W' ∧ (overD now L).length ≤ c ∧ c ≤ maxLen := by
  refine (tbexpire_any W g b n L H.tab hn now).mono ?_
  rintro e W' ⟨q, c, he, h1, h2, h3, h4, h5, h6⟩
  exact ⟨q, c, he, ⟨h1, fun r off e => by have := h6 r off e; have := H.tab.lt; omega⟩, H.turn h5 h4, h5, h2, h3⟩
theorem lclear {w W : World} {g b n : Nat} {L : List Dt} (H : TLv w W g b n L) (hn : n < 1000000) :
    Calls Try.prog 16 #[.pointer (some ⟨g, 0, none⟩)] W fun e W' => ∃ q c, e = .returned (.slice q L.length c) ∧ TL W' b q L ∧ TLv w W' g b 0 [] ∧ Turns (fun k => k = b) W W' ∧ L.length ≤ c ∧ c ≤ maxLen := by
  refine (tbclear_any W g b n L H.tab hn).mono ?_
  rintro e W' ⟨q, c, he, h1, h2, h3, h4, h5, h6⟩
  exact ⟨q, c, he, ⟨h1, fun r off e => by have := h6 r off e; have := H.tab.lt; omega⟩, H.turn h5 h4, h5, h2, h3⟩
theorem ldel {w W : World} {g b n : Nat} {L : List Dt} (H : TLv w W g b n L) (p : Pf) (hp : InPf p) :
    Calls Try.prog 11 #[.pointer (some ⟨g, 0, none⟩), pfV p] W fun e W' => e = .returned (.bool (lookD L p).isSome) ∧ TLv w W' g b n (delD p L) ∧ Turns (fun k => k = b) W W' := by
  refine (tbdel_any W g b n L H.tab p hp).mono ?_
  rintro e W' ⟨he, h1, h2⟩
  exact ⟨he, H.turn h2 h1, h2⟩
theorem ten_in (n : Int) (h0 : 0 ≤ n) (h1 : n < 4294967296) : InPf ⟨n, 16⟩ := ⟨by simp [Lit.wf, IntKind.min, IntKind.max, IntKind.signed, IntKind.bits]; omega, show (Lit.int IntKind.i64 16).wf = true by decide⟩
theorem lit12 (u : World) : DtsAt (u.alloc (.cells #[.int .i64 1, .int .u32 167837696, .int .i64 16, .int .i64 2, .int .i64 9, .int .i64 1, .int .u32 167903232, .int .i64 16, .int .i64 2, .int .i64 5] 36)) (some ⟨u.heap.size, 0, none⟩) [v1, v2] :=
  (LOwn.lit rowDt u 0 [v1, v2] (fun x hx => by
    rcases List.mem_cons.1 hx with rfl | hx
    · exact ten_in _ (by decide) (by decide)
    · rcases List.mem_cons.1 hx with rfl | hx
      · exact ten_in _ (by decide) (by decide)
      · cases hx) (Nat.zero_le _) (by unfold maxLen; simp)).at rowDt
theorem lit2 (u : World) : DtsAt (u.alloc (.cells #[.int .i64 1, .int .u32 167903232, .int .i64 16, .int .i64 2, .int .i64 5] 36)) (some ⟨u.heap.size, 0, none⟩) [v2] := dt_lit u v2 (ten_in _ (by decide) (by decide))
theorem lit7 (u : World) : DtsAt (u.alloc (.cells #[.int .i64 1, .int .u32 168230912, .int .i64 16, .int .i64 2, .int .i64 1] 36)) (some ⟨u.heap.size, 0, none⟩) [v7] := dt_lit u v7 (ten_in _ (by decide) (by decide))

set_option maxHeartbeats 16000000 in
theorem lives23_any (w : World) : Calls Try.prog 8 #[] w fun e w' => e = .returned (.bool true) ∧ Below w.heap.size w w' := by
  go_enter Try.func8, Try.ntmps8
  go_wp2_with fail
  refine (tbnew_any w).mono ?_
  rintro e W0 ⟨g, b, rfl, h1, h2, h3, h4⟩
  have H0 := Lib.hid (show TLv w W0 g b 0 [] from ⟨h2, h1, h4⟩)
  clear h1 h2 h3 h4
  go_wp2_with fail
  refine (one2_any W0).mono ?_
  rintro e W1 ⟨rfl, hb⟩
  have HS := Lib.hid (show Calls Try.prog 9 #[.pointer (some ⟨g, 0, none⟩), .agg #[.int .i64 1, .int .u32 167903232, .int .i64 16, .int .i64 2, .int .i64 5]] W1 _ from lset (H0.out.next hb) v2 (ten_in _ (by decide) (by decide)) (by omega) lv_s2)
  clear hb
  go_wp2_with fail
  refine HS.out.mono ?_
  rintro e W2 ⟨rfl, n2, hn2, h2, _⟩
  have H2 := Lib.hid h2
  have HN2 := Lib.hid hn2
  clear HS h2 hn2 H0
  go_wp2_with fail
  refine (one1_any W2).mono ?_
  rintro e W3 ⟨rfl, hb⟩
  have HS := Lib.hid (show Calls Try.prog 9 #[.pointer (some ⟨g, 0, none⟩), .agg #[.int .i64 1, .int .u32 167837696, .int .i64 16, .int .i64 2, .int .i64 9]] W3 _ from lset (H2.out.next hb) v1 (ten_in _ (by decide) (by decide)) (by have := HN2.out; omega) lv_s1)
  clear hb
  go_wp2_with fail
  refine HS.out.mono ?_
  rintro e W4 ⟨rfl, n4, hn4, h4, _⟩
  have H4 := Lib.hid h4
  have HN4 := Lib.hid (show n4 ≤ 2 by have := HN2.out; omega)
  have HS := Lib.hid (show Calls Try.prog 9 #[.pointer (some ⟨g, 0, none⟩), .agg #[.int .i64 0, .int .u32 0, .int .i64 40, .int .i64 0, .int .i64 0]] W4 _ from lset h4 v0 ⟨by decide, by decide⟩ (by have := HN4.out; omega) lv_s0)
  clear h4 hn4 H2
  go_wp2_with fail
  refine HS.out.mono ?_
  rintro e W5 ⟨rfl, n5, hn5, h5, _⟩
  have H5 := Lib.hid h5
  have HN5 := Lib.hid (show n5 ≤ 3 by have := HN4.out; omega)
  clear h5 hn5 H4 HS
  go_wp2_with fail
  refine (lall H5.out (by have := HN5.out; omega)).mono ?_
  rintro e W6 ⟨q6, c6, rfl, hl6, h6, _, _, _⟩
  have HL6 := Lib.hid hl6
  have H6 := Lib.hid h6
  clear hl6 h6 H5
  go_wp2_with fail
  refine (lexp H6.out (by have := HN5.out; omega) 5).mono ?_
  rintro e W7 ⟨q7, c7, rfl, hl7, h7, t7, _, _⟩
  rw [lv_o5.1] at hl7
  rw [lv_o5.2] at h7
  rw [lv_o5.1]
  have HL6' := Lib.hid (HL6.out.turn t7)
  have H7 := Lib.hid h7
  clear hl7 h7 t7 H6 HL6
  go_wp2_with fail
  refine (lexp H7.out (by have := HN5.out; omega) 6).mono ?_
  rintro e W8 ⟨q8, c8, rfl, hl8, h8, t8, _, _⟩
  rw [lv_o6.1] at hl8
  rw [lv_o6.2] at h8
  rw [lv_o6.1]
  have HL6 := Lib.hid (HL6'.out.turn t8)
  have HL8 := Lib.hid hl8
  have H8 := Lib.hid h8
  clear hl8 h8 t8 H7 HL6'
  go_wp2_with fail
  refine (ten1_any W8).mono ?_
  rintro e W9 ⟨rfl, hb⟩
  have HG := Lib.hid (show Calls Try.prog 17 #[.pointer (some ⟨g, 0, none⟩), .agg #[.int .u32 167837696, .int .i64 16]] W9 fun e w' => e = .returned (.tuple #[.agg #[.int .i64 1, .int .u32 167837696, .int .i64 16, .int .i64 2, .int .i64 9], .bool true]) ∧ Below W9.heap.size W9 w' from by
    have := tbget_any W9 g b n5 [v1] (H8.out.next hb).tab ⟨167837696, 16⟩ (ten_in _ (by decide) (by decide))
    rw [lv_g] at this
    exact this)
  have H9 := Lib.hid (H8.out.next hb)
  have HL69 := Lib.hid (HL6.out.next hb)
  have HL89 := Lib.hid (HL8.out.next hb)
  clear hb H8 HL6 HL8
  go_wp2_with fail
  refine HG.out.mono ?_
  rintro e W10 ⟨rfl, hb⟩
  have hX := Blk.new W10 36 [.int .i64 1, .int .u32 167837696, .int .i64 16, .int .i64 2, .int .i64 9]
  have hb2 := newB W10 (.cells #[.int .i64 1, .int .u32 167837696, .int .i64 16, .int .i64 2, .int .i64 9] 36)
  obtain ⟨P, hP⟩ : ∃ P, W10.heap.size = P := ⟨_, rfl⟩
  obtain ⟨V, hV⟩ : ∃ V, W10.alloc (.cells #[.int .i64 1, .int .u32 167837696, .int .i64 16, .int .i64 2, .int .i64 9] 36) = V := ⟨_, rfl⟩
  rw [hV] at hX hb2
  rw [hP] at hX
  have HVE := Lib.hid hV
  have HPE := Lib.hid hP
  have hbV := hb.trans (hb2.mono hb.size)
  have HX := Lib.hid hX
  have HV := Lib.hid (H9.out.next hbV)
  have HL6V := Lib.hid (HL69.out.next hbV)
  have HL8V := Lib.hid (HL89.out.next hbV)
  have HPB := Lib.hid (show P ≠ b from H9.out.next hbV |>.tab.map.notBlk hX)
  clear hX hb2 hV hP hb hbV H9 HL69 HL89 HG
  go_wp2_with fail
  rw [HVE.out, HPE.out]
  go_wp2_with fail
  refine (ten1_any V).mono ?_
  rintro e W11 ⟨rfl, hb⟩
  have HD := Lib.hid (show Calls Try.prog 11 #[.pointer (some ⟨g, 0, none⟩), .agg #[.int .u32 167837696, .int .i64 16]] W11 fun e W' => e = .returned (.bool true) ∧ TLv w W' g b n5 [] ∧ Turns (fun k => k = b) W11 W' from by
    have := ldel (HV.out.next hb) ⟨167837696, 16⟩ (ten_in _ (by decide) (by decide))
    rw [lv_g, lv_d] at this
    exact this)
  have HX11 := Lib.hid (HX.out.next hb)
  have HL6W := Lib.hid (HL6V.out.next hb)
  have HL8W := Lib.hid (HL8V.out.next hb)
  clear hb HV HL6V HL8V HX
  go_wp2_with fail
  refine HD.out.mono ?_
  rintro e W12 ⟨rfl, h12, t12⟩
  have HX12 := Lib.hid (HX11.out.of_same (t12.block P HX11.out.lt HPB.out))
  have HL6X := Lib.hid (HL6W.out.turn t12)
  have HL8X := Lib.hid (HL8W.out.turn t12)
  have H12 := Lib.hid h12
  clear h12 t12 HL6W HL8W HX11 HD
  go_wp2_with fail
  refine (ten1_any W12).mono ?_
  rintro e W13 ⟨rfl, hb⟩
  have HD := Lib.hid (show Calls Try.prog 11 #[.pointer (some ⟨g, 0, none⟩), .agg #[.int .u32 167837696, .int .i64 16]] W13 fun e W' => e = .returned (.bool false) ∧ TLv w W' g b n5 [] ∧ Turns (fun k => k = b) W13 W' from ldel (H12.out.next hb) ⟨167837696, 16⟩ (ten_in _ (by decide) (by decide)))
  have HX13 := Lib.hid (HX12.out.next hb)
  have HL6W := Lib.hid (HL6X.out.next hb)
  have HL8W := Lib.hid (HL8X.out.next hb)
  clear hb H12 HL6X HL8X HX12
  go_wp2_with fail
  refine HD.out.mono ?_
  rintro e W14 ⟨rfl, h14, t14⟩
  have HX14 := Lib.hid (HX13.out.of_same (t14.block P HX13.out.lt HPB.out))
  have HL6X := Lib.hid (HL6W.out.turn t14)
  have HL8X := Lib.hid (HL8W.out.turn t14)
  have H14 := Lib.hid h14
  clear h14 t14 HL6W HL8W HX13 HD
  go_wp2_with fail
  refine (one7_any W14).mono ?_
  rintro e W15 ⟨rfl, hb⟩
  have HS := Lib.hid (show Calls Try.prog 9 #[.pointer (some ⟨g, 0, none⟩), .agg #[.int .i64 1, .int .u32 168230912, .int .i64 16, .int .i64 2, .int .i64 1]] W15 _ from lset (H14.out.next hb) v7 (ten_in _ (by decide) (by decide)) (by have := HN5.out; omega) lv_s7)
  have HX15 := Lib.hid (HX14.out.next hb)
  have HL6W := Lib.hid (HL6X.out.next hb)
  have HL8W := Lib.hid (HL8X.out.next hb)
  clear hb HL6X HL8X HX14
  go_wp2_with fail
  refine HS.out.mono ?_
  rintro e W16 ⟨rfl, n16, hn16, h16, t16⟩
  have HN16 := Lib.hid (show n16 ≤ 4 by have := HN5.out; omega)
  have HX16 := Lib.hid (HX15.out.of_same (t16.block P HX15.out.lt HPB.out))
  have HL6X := Lib.hid (HL6W.out.turn t16)
  have HL8X := Lib.hid (HL8W.out.turn t16)
  have H16 := Lib.hid h16
  clear h16 t16 hn16 HL6W HL8W HX15 HS H14
  go_wp2_with fail
  refine (lclear H16.out (by have := HN16.out; omega)).mono ?_
  rintro e W17 ⟨q17, c17, rfl, hl17, h17, t17, _, _⟩
  have HX17 := Lib.hid (HX16.out.of_same (t17.block P HX16.out.lt HPB.out))
  have HL6Z := Lib.hid (HL6X.out.turn t17)
  have HL8Z := Lib.hid (HL8X.out.turn t17)
  have HLZ := Lib.hid hl17
  have H17 := Lib.hid h17
  clear h17 t17 hl17 HL6X HL8X HX16 H16
  have hg := dt_eqGuard
  have hq : ∀ u, (binOp .eql 36 (.agg #[.int .i64 1, .int .u32 167837696, .int .i64 16, .int .i64 2, .int .i64 9]) (.agg #[.int .i64 1, .int .u32 167837696, .int .i64 16, .int .i64 2, .int .i64 9])).run Try.prog u = .ok (.bool true) u := fun u => dt_eql v1 v1 u
  have hS0 : W17.cell? ⟨P, 0, none⟩ = some (.int .i64 1) ∧ W17.cell? ⟨P, 1, none⟩ = some (.int .u32 167837696) ∧ W17.cell? ⟨P, 2, none⟩ = some (.int .i64 16) ∧ W17.cell? ⟨P, 3, none⟩ = some (.int .i64 2) ∧ W17.cell? ⟨P, 4, none⟩ = some (.int .i64 9) := dt_boxes HX17.out
  have HALL := Lib.hid (fun (U : World) (hU : Below W17.heap.size W17 U) => show U.cell? ⟨P, 0, none⟩ = some (.int .i64 1) ∧ U.cell? ⟨P, 1, none⟩ = some (.int .u32 167837696) ∧ U.cell? ⟨P, 2, none⟩ = some (.int .i64 16) ∧ U.cell? ⟨P, 3, none⟩ = some (.int .i64 2) ∧ U.cell? ⟨P, 4, none⟩ = some (.int .i64 9) from dt_boxes (HX17.out.next hU))
  have HB9 := Lib.hid (show Below W17.heap.size W17 W17.drew from (Below.refl _ _).drew)
  have hS := HALL.out _ HB9.out
  go_wp2_with fail
  have hS := HALL.out _ HB9.out
  refine wp_region_held_drew (S := fun w' => w'.cell? ⟨P, 0, none⟩ = some (.int .i64 1) ∧ w'.cell? ⟨P, 1, none⟩ = some (.int .u32 167837696) ∧ w'.cell? ⟨P, 2, none⟩ = some (.int .i64 16) ∧ w'.cell? ⟨P, 3, none⟩ = some (.int .i64 2) ∧ w'.cell? ⟨P, 4, none⟩ = some (.int .i64 9)) (by kernel_rfl) hS ?_
  intro hS1
  refine wpAnyH_take (i := 0) (oi := ⟨some 50, _, _, _, _, _⟩) (v := ?_) rfl (by kernel_rfl) (by kernel_rfl) (by kernel_rfl) (fun _ _ _ h => h) (Or.inl ⟨by kernel_rfl, fun U hU => by (dsimp only at hU; go_split_ands; go_simp; first | done | with_reducible rfl)⟩) (by assumption) ?_; (try simp only [Act.put, List.setIfInBounds_toArray, List.set_cons_zero, List.set_cons_succ])
  refine wpAnyH_take (i := 1) (oi := ⟨some 51, _, _, _, _, _⟩) (v := ?_) rfl (by kernel_rfl) (by kernel_rfl) (by kernel_rfl) (fun _ _ _ h => h) (Or.inl ⟨by kernel_rfl, fun U hU => by (dsimp only at hU; go_split_ands; go_simp; first | done | with_reducible rfl)⟩) (by assumption) ?_; (try simp only [Act.put, List.setIfInBounds_toArray, List.set_cons_zero, List.set_cons_succ])
  refine wpAnyH_take (i := 2) (oi := ⟨some 52, _, _, _, _, _⟩) (v := ?_) rfl (by kernel_rfl) (by kernel_rfl) (by kernel_rfl) (fun _ _ _ h => h) (Or.inl ⟨by kernel_rfl, fun U hU => by (dsimp only at hU; go_split_ands; go_simp; first | done | with_reducible rfl)⟩) (by assumption) ?_; (try simp only [Act.put, List.setIfInBounds_toArray, List.set_cons_zero, List.set_cons_succ])
  refine wpAnyH_take (i := 3) (oi := ⟨some 53, _, _, _, _, _⟩) (v := ?_) rfl (by kernel_rfl) (by kernel_rfl) (by kernel_rfl) (fun _ _ _ h => h) (Or.inl ⟨by kernel_rfl, fun U hU => by (dsimp only at hU; go_split_ands; go_simp; first | done | with_reducible rfl)⟩) (by assumption) ?_; (try simp only [Act.put, List.setIfInBounds_toArray, List.set_cons_zero, List.set_cons_succ])
  refine wpAnyH_take (i := 4) (oi := ⟨some 54, _, _, _, _, _⟩) (v := ?_) rfl (by kernel_rfl) (by kernel_rfl) (by kernel_rfl) (fun _ _ _ h => h) (Or.inl ⟨by kernel_rfl, fun U hU => by (dsimp only at hU; go_split_ands; go_simp; first | done | with_reducible rfl)⟩) (by assumption) ?_; (try simp only [Act.put, List.setIfInBounds_toArray, List.set_cons_zero, List.set_cons_succ])
  refine wpAnyH_take (i := 5) (oi := ⟨some 55, _, _, _, _, _⟩) (v := ?_) rfl (by kernel_rfl) (by kernel_rfl) (by kernel_rfl) (fun _ _ _ h => h) (Or.inl ⟨by kernel_rfl, fun U hU => by (dsimp only at hU; go_split_ands; go_simp; first | done | with_reducible rfl)⟩) (by assumption) ?_; (try simp only [Act.put, List.setIfInBounds_toArray, List.set_cons_zero, List.set_cons_succ])
  refine wpAnyH_take (i := 6) (oi := ⟨some 56, _, _, _, _, _⟩) (v := ?_) rfl (by kernel_rfl) (by kernel_rfl) (by kernel_rfl) (fun _ _ _ h => h) (Or.inl ⟨by kernel_rfl, fun U hU => by (dsimp only at hU; go_split_ands; go_simp; first | done | with_reducible rfl)⟩) (by assumption) ?_; (try simp only [Act.put, List.setIfInBounds_toArray, List.set_cons_zero, List.set_cons_succ])
  refine wpAnyH_take (i := 7) (oi := ⟨some 57, _, _, _, _, _⟩) (v := ?_) rfl (by kernel_rfl) (by kernel_rfl) (by kernel_rfl) (fun _ _ _ h => h) (Or.inl ⟨by kernel_rfl, fun U hU => by (dsimp only at hU; go_split_ands; go_simp; first | done | with_reducible rfl)⟩) (by assumption) ?_; (try simp only [Act.put, List.setIfInBounds_toArray, List.set_cons_zero, List.set_cons_succ])
  refine wpAnyH_take (i := 8) (oi := ⟨some 58, _, _, _, _, _⟩) (v := ?_) rfl (by kernel_rfl) (by kernel_rfl) (by kernel_rfl) (fun _ _ _ h => h) (Or.inl ⟨by kernel_rfl, fun U hU => by (dsimp only at hU; go_split_ands; go_simp; first | done | with_reducible rfl)⟩) (by assumption) ?_; (try simp only [Act.put, List.setIfInBounds_toArray, List.set_cons_zero, List.set_cons_succ])
  refine wpAnyH_take (i := 9) (oi := ⟨some 59, _, _, _, _, _⟩) (v := ?_) rfl (by kernel_rfl) (by kernel_rfl) (by kernel_rfl) (fun _ _ _ h => h) (Or.inl ⟨by kernel_rfl, fun U hU => by (dsimp only at hU; go_split_ands; go_simp; first | done | with_reducible rfl)⟩) (by assumption) ?_; (try simp only [Act.put, List.setIfInBounds_toArray, List.set_cons_zero, List.set_cons_succ])
  refine wpAnyH_take (i := 10) (oi := ⟨some 60, _, _, _, _, _⟩) (v := ?_) rfl (by kernel_rfl) (by kernel_rfl) (by kernel_rfl) (fun _ _ _ h => h) (Or.inl ⟨by kernel_rfl, fun U hU => by (dsimp only at hU; go_split_ands; go_simp; first | done | with_reducible rfl)⟩) (by assumption) ?_; (try simp only [Act.put, List.setIfInBounds_toArray, List.set_cons_zero, List.set_cons_succ])
  refine wpAnyH_take (i := 11) (oi := ⟨some 61, _, _, _, _, _⟩) (v := ?_) rfl (by kernel_rfl) (by kernel_rfl) (by kernel_rfl) (fun _ _ _ h => h) (Or.inl ⟨by kernel_rfl, fun U hU => by (dsimp only at hU; go_split_ands; go_simp; first | done | with_reducible rfl)⟩) (by assumption) ?_; (try simp only [Act.put, List.setIfInBounds_toArray, List.set_cons_zero, List.set_cons_succ])
  refine wpAnyH_ready (rs := [12]) (by kernel_rfl) (by simp) ?_
  refine AllReadyH.cons (o := ⟨some 62, _, _, _, _, _⟩) rfl (fun K hK => ?_) AllReadyH.nil
  go_simp
  go_at_call 21; (with_reducible refine (one1_any _).mono ?_); rintro e v9 ⟨rfl, hb⟩; have HB9 := Lib.hid (HB9.out.trans (hb.mono HB9.out.size)); have hS4 := HALL.out _ HB9.out; clear hb
  refine hK.out _ _ hS4 (fun hS5 => ?_)
  try simp only [Act.put, List.setIfInBounds_toArray, List.set_cons_zero, List.set_cons_succ]
  clear hK K hS1; have hS1 := hS4; clear hS4 hS5
  refine wpAnyH_ready (rs := [13]) (by kernel_rfl) (by simp) ?_
  refine AllReadyH.cons (o := ⟨some 63, _, _, _, _, _⟩) rfl (fun K hK => ?_) AllReadyH.nil
  go_simp
  go_at_call 21; (with_reducible refine (one2_any _).mono ?_); rintro e v9 ⟨rfl, hb⟩; have HB9 := Lib.hid (HB9.out.trans (hb.mono HB9.out.size)); have hS4 := HALL.out _ HB9.out; clear hb
  refine hK.out _ _ hS4 (fun hS5 => ?_)
  try simp only [Act.put, List.setIfInBounds_toArray, List.set_cons_zero, List.set_cons_succ]
  clear hK K hS1; have hS1 := hS4; clear hS4 hS5
  refine wpAnyH_ready (rs := [14]) (by kernel_rfl) (by simp) ?_
  refine AllReadyH.cons (o := ⟨some 64, _, _, _, _, _⟩) rfl (fun K hK => ?_) AllReadyH.nil
  go_simp
  obtain ⟨v8, hv8⟩ : ∃ v8, v9.alloc (.cells #[.int .i64 1, .int .u32 167837696, .int .i64 16, .int .i64 2, .int .i64 9, .int .i64 1, .int .u32 167903232, .int .i64 16, .int .i64 2, .int .i64 5] 36) = v8 := ⟨_, rfl⟩; have HS9 := Lib.hid (rsameD_yes q6 (some ⟨v9.heap.size, 0, none⟩) [v1, v2] 2 c6 2 v8 (HL6Z.out.next (show Below W17.heap.size W17 v8 from hv8 ▸ HB9.out.alloc HB9.out.size _)).at_ (hv8 ▸ lit12 v9) rfl (by unfold maxLen; decide)); have HB9 := Lib.hid (show Below W17.heap.size W17 v8 from hv8 ▸ HB9.out.alloc HB9.out.size _); have hS4 := HALL.out _ HB9.out; rw [hv8]; clear hv8
  refine hK.out _ _ hS4 (fun hS5 => ?_)
  try simp only [Act.put, List.setIfInBounds_toArray, List.set_cons_zero, List.set_cons_succ]
  clear hK K hS1; have hS1 := hS4; clear hS4 hS5
  refine wpAnyH_ready (rs := [15]) (by kernel_rfl) (by simp) ?_
  refine AllReadyH.cons (o := ⟨some 65, _, _, _, _, _⟩) rfl (fun K hK => ?_) AllReadyH.nil
  go_simp
  go_at_call 13; refine HS9.out.mono ?_; rintro e v9 ⟨rfl, hb⟩; have HB9 := Lib.hid (HB9.out.trans (hb.mono HB9.out.size)); have hS4 := HALL.out _ HB9.out; clear hb HS9
  refine hK.out _ _ hS4 (fun hS5 => ?_)
  try simp only [Act.put, List.setIfInBounds_toArray, List.set_cons_zero, List.set_cons_succ]
  clear hK K hS1; have hS1 := hS4; clear hS4 hS5
  refine wpAnyH_take (i := 16) (oi := ⟨some 66, _, _, _, _, _⟩) (v := ?_) rfl (by kernel_rfl) (by kernel_rfl) (by kernel_rfl) (fun _ _ _ h => h) (Or.inl ⟨by kernel_rfl, fun U hU => by (dsimp only at hU; go_split_ands; go_simp; first | done | with_reducible rfl)⟩) (by assumption) ?_; (try simp only [Act.put, List.setIfInBounds_toArray, List.set_cons_zero, List.set_cons_succ])
  refine wpAnyH_take (i := 17) (oi := ⟨some 67, _, _, _, _, _⟩) (v := ?_) rfl (by kernel_rfl) (by kernel_rfl) (by kernel_rfl) (fun _ _ _ h => h) (Or.inl ⟨by kernel_rfl, fun U hU => by (dsimp only at hU; go_split_ands; go_simp; first | done | with_reducible rfl)⟩) (by assumption) ?_; (try simp only [Act.put, List.setIfInBounds_toArray, List.set_cons_zero, List.set_cons_succ])
  refine wpAnyH_take (i := 18) (oi := ⟨some 68, _, _, _, _, _⟩) (v := ?_) rfl (by kernel_rfl) (by kernel_rfl) (by kernel_rfl) (fun _ _ _ h => h) (Or.inl ⟨by kernel_rfl, fun U hU => by (dsimp only at hU; go_split_ands; go_simp; first | done | with_reducible rfl)⟩) (by assumption) ?_; (try simp only [Act.put, List.setIfInBounds_toArray, List.set_cons_zero, List.set_cons_succ])
  refine wpAnyH_take (i := 19) (oi := ⟨some 69, _, _, _, _, _⟩) (v := ?_) rfl (by kernel_rfl) (by kernel_rfl) (by kernel_rfl) (fun _ _ _ h => h) (Or.inl ⟨by kernel_rfl, fun U hU => by (dsimp only at hU; go_split_ands; go_simp; first | done | with_reducible rfl)⟩) (by assumption) ?_; (try simp only [Act.put, List.setIfInBounds_toArray, List.set_cons_zero, List.set_cons_succ])
  refine wpAnyH_take (i := 20) (oi := ⟨some 70, _, _, _, _, _⟩) (v := ?_) rfl (by kernel_rfl) (by kernel_rfl) (by kernel_rfl) (fun _ _ _ h => h) (Or.inl ⟨by kernel_rfl, fun U hU => by (dsimp only at hU; go_split_ands; go_simp; first | done | with_reducible rfl)⟩) (by assumption) ?_; (try simp only [Act.put, List.setIfInBounds_toArray, List.set_cons_zero, List.set_cons_succ])
  refine wpAnyH_take (i := 21) (oi := ⟨some 71, _, _, _, _, _⟩) (v := ?_) rfl (by kernel_rfl) (by kernel_rfl) (by kernel_rfl) (fun _ _ _ h => h) (Or.inl ⟨by kernel_rfl, fun U hU => by (dsimp only at hU; go_split_ands; go_simp; first | done | with_reducible rfl)⟩) (by assumption) ?_; (try simp only [Act.put, List.setIfInBounds_toArray, List.set_cons_zero, List.set_cons_succ])
  refine wpAnyH_take (i := 22) (oi := ⟨some 72, _, _, _, _, _⟩) (v := ?_) rfl (by kernel_rfl) (by kernel_rfl) (by kernel_rfl) (fun _ _ _ h => h) (Or.inl ⟨by kernel_rfl, fun U hU => by (dsimp only at hU; go_split_ands; go_simp; first | done | with_reducible rfl)⟩) (by assumption) ?_; (try simp only [Act.put, List.setIfInBounds_toArray, List.set_cons_zero, List.set_cons_succ])
  refine wpAnyH_take (i := 23) (oi := ⟨some 73, _, _, _, _, _⟩) (v := ?_) rfl (by kernel_rfl) (by kernel_rfl) (by kernel_rfl) (fun _ _ _ h => h) (Or.inl ⟨by kernel_rfl, fun U hU => by (dsimp only at hU; go_split_ands; go_simp; first | done | with_reducible rfl)⟩) (by assumption) ?_; (try simp only [Act.put, List.setIfInBounds_toArray, List.set_cons_zero, List.set_cons_succ])
  refine wpAnyH_ready (rs := [24]) (by kernel_rfl) (by simp) ?_
  refine AllReadyH.cons (o := ⟨some 74, _, _, _, _, _⟩) rfl (fun K hK => ?_) AllReadyH.nil
  go_simp
  go_at_call 21; (with_reducible refine (one2_any _).mono ?_); rintro e v9 ⟨rfl, hb⟩; have HB9 := Lib.hid (HB9.out.trans (hb.mono HB9.out.size)); have hS4 := HALL.out _ HB9.out; clear hb
  refine hK.out _ _ hS4 (fun hS5 => ?_)
  try simp only [Act.put, List.setIfInBounds_toArray, List.set_cons_zero, List.set_cons_succ]
  clear hK K hS1; have hS1 := hS4; clear hS4 hS5
  refine wpAnyH_ready (rs := [25]) (by kernel_rfl) (by simp) ?_
  refine AllReadyH.cons (o := ⟨some 75, _, _, _, _, _⟩) rfl (fun K hK => ?_) AllReadyH.nil
  go_simp
  obtain ⟨v8, hv8⟩ : ∃ v8, v9.alloc (.cells #[.int .i64 1, .int .u32 167903232, .int .i64 16, .int .i64 2, .int .i64 5] 36) = v8 := ⟨_, rfl⟩; have HS9 := Lib.hid (rsameD_yes q8 (some ⟨v9.heap.size, 0, none⟩) [v2] 1 c8 1 v8 (HL8Z.out.next (show Below W17.heap.size W17 v8 from hv8 ▸ HB9.out.alloc HB9.out.size _)).at_ (hv8 ▸ lit2 v9) rfl (by unfold maxLen; decide)); have HB9 := Lib.hid (show Below W17.heap.size W17 v8 from hv8 ▸ HB9.out.alloc HB9.out.size _); have hS4 := HALL.out _ HB9.out; rw [hv8]; clear hv8
  refine hK.out _ _ hS4 (fun hS5 => ?_)
  try simp only [Act.put, List.setIfInBounds_toArray, List.set_cons_zero, List.set_cons_succ]
  clear hK K hS1; have hS1 := hS4; clear hS4 hS5
  refine wpAnyH_ready (rs := [26]) (by kernel_rfl) (by simp) ?_
  refine AllReadyH.cons (o := ⟨some 76, _, _, _, _, _⟩) rfl (fun K hK => ?_) AllReadyH.nil
  go_simp
  go_at_call 13; refine HS9.out.mono ?_; rintro e v9 ⟨rfl, hb⟩; have HB9 := Lib.hid (HB9.out.trans (hb.mono HB9.out.size)); have hS4 := HALL.out _ HB9.out; clear hb HS9
  refine hK.out _ _ hS4 (fun hS5 => ?_)
  try simp only [Act.put, List.setIfInBounds_toArray, List.set_cons_zero, List.set_cons_succ]
  clear hK K hS1; have hS1 := hS4; clear hS4 hS5
  refine wpAnyH_take (i := 27) (oi := ⟨some 77, _, _, _, _, _⟩) (v := ?_) rfl (by kernel_rfl) (by kernel_rfl) (by kernel_rfl) (fun _ _ _ h => h) (Or.inl ⟨by kernel_rfl, fun U hU => by (dsimp only at hU; go_split_ands; go_simp; first | done | with_reducible rfl)⟩) (by assumption) ?_; (try simp only [Act.put, List.setIfInBounds_toArray, List.set_cons_zero, List.set_cons_succ])
  refine wpAnyH_take (i := 28) (oi := ⟨some 78, _, _, _, _, _⟩) (v := ?_) rfl (by kernel_rfl) (by kernel_rfl) (by kernel_rfl) (fun _ _ _ h => h) (Or.inl ⟨by kernel_rfl, fun U hU => by (dsimp only at hU; go_split_ands; go_simp; first | done | with_reducible rfl)⟩) (by assumption) ?_; (try simp only [Act.put, List.setIfInBounds_toArray, List.set_cons_zero, List.set_cons_succ])
  refine wpAnyH_take (i := 29) (oi := ⟨some 79, _, _, _, _, _⟩) (v := ?_) rfl (by kernel_rfl) (by kernel_rfl) (by kernel_rfl) (fun _ _ _ h => h) (Or.inl ⟨by kernel_rfl, fun U hU => by (dsimp only at hU; go_split_ands; go_simp; first | done | with_reducible rfl)⟩) (by assumption) ?_; (try simp only [Act.put, List.setIfInBounds_toArray, List.set_cons_zero, List.set_cons_succ])
  refine wpAnyH_take (i := 30) (oi := ⟨some 80, _, _, _, _, _⟩) (v := ?_) rfl (by kernel_rfl) (by kernel_rfl) (by kernel_rfl) (fun _ _ _ h => h) (Or.inl ⟨by kernel_rfl, fun U hU => by (dsimp only at hU; go_split_ands; go_simp; first | done | with_reducible rfl)⟩) (by assumption) ?_; (try simp only [Act.put, List.setIfInBounds_toArray, List.set_cons_zero, List.set_cons_succ])
  refine wpAnyH_take (i := 31) (oi := ⟨some 81, _, _, _, _, _⟩) (v := ?_) rfl (by kernel_rfl) (by kernel_rfl) (by kernel_rfl) (fun _ _ _ h => h) (Or.inl ⟨by kernel_rfl, fun U hU => by (dsimp only at hU; go_split_ands; go_simp; first | done | with_reducible rfl)⟩) (by assumption) ?_; (try simp only [Act.put, List.setIfInBounds_toArray, List.set_cons_zero, List.set_cons_succ])
  refine wpAnyH_take (i := 32) (oi := ⟨some 82, _, _, _, _, _⟩) (v := ?_) rfl (by kernel_rfl) (by kernel_rfl) (by kernel_rfl) (fun _ _ _ h => h) (Or.inl ⟨by kernel_rfl, fun U hU => by (dsimp only at hU; go_split_ands; go_simp; first | done | with_reducible rfl)⟩) (by assumption) ?_; (try simp only [Act.put, List.setIfInBounds_toArray, List.set_cons_zero, List.set_cons_succ])
  refine wpAnyH_ready (rs := [33]) (by kernel_rfl) (by simp) ?_
  refine AllReadyH.cons (o := ⟨some 83, _, _, _, _, _⟩) rfl (fun K hK => ?_) AllReadyH.nil
  go_simp
  go_at_call 21; (with_reducible refine (one1_any _).mono ?_); rintro e v9 ⟨rfl, hb⟩; have HB9 := Lib.hid (HB9.out.trans (hb.mono HB9.out.size)); have hS4 := HALL.out _ HB9.out; clear hb
  refine hK.out _ _ hS4 (fun hS5 => ?_)
  try simp only [Act.put, List.setIfInBounds_toArray, List.set_cons_zero, List.set_cons_succ]
  clear hK K hS1; have hS1 := hS4; clear hS4 hS5
  refine wpAnyH_take (i := 34) (oi := ⟨some 84, _, _, _, _, _⟩) (v := ?_) rfl (by kernel_rfl) (by kernel_rfl) (by kernel_rfl) (fun _ _ _ h => h) (Or.inl ⟨by kernel_rfl, fun U hU => by (dsimp only at hU; go_split_ands; go_simp; first | done | with_reducible rfl)⟩) (by assumption) ?_; (try simp only [Act.put, List.setIfInBounds_toArray, List.set_cons_zero, List.set_cons_succ])
  refine wpAnyH_take (i := 35) (oi := ⟨some 85, _, _, _, _, _⟩) (v := ?_) rfl (by kernel_rfl) (by kernel_rfl) (by kernel_rfl) (fun _ _ _ h => h) (Or.inl ⟨by kernel_rfl, fun U hU => by (dsimp only at hU; go_split_ands; go_simp; first | done | with_reducible rfl)⟩) (by assumption) ?_; (try simp only [Act.put, List.setIfInBounds_toArray, List.set_cons_zero, List.set_cons_succ])
  refine wpAnyH_take (i := 36) (oi := ⟨some 86, _, _, _, _, _⟩) (v := ?_) rfl (by kernel_rfl) (by kernel_rfl) (by kernel_rfl) (fun _ _ _ h => h) (Or.inl ⟨by kernel_rfl, fun U hU => by (dsimp only at hU; go_split_ands; go_simp; first | done | with_reducible rfl)⟩) (by assumption) ?_; (try simp only [Act.put, List.setIfInBounds_toArray, List.set_cons_zero, List.set_cons_succ])
  refine wpAnyH_take (i := 37) (oi := ⟨some 87, _, _, _, _, _⟩) (v := ?_) rfl (by kernel_rfl) (by kernel_rfl) (by kernel_rfl) (fun _ _ _ h => h) (Or.inl ⟨by kernel_rfl, fun U hU => by (dsimp only at hU; go_split_ands; go_simp; first | done | with_reducible rfl)⟩) (by assumption) ?_; (try simp only [Act.put, List.setIfInBounds_toArray, List.set_cons_zero, List.set_cons_succ])
  refine wpAnyH_take (i := 38) (oi := ⟨some 88, _, _, _, _, _⟩) (v := ?_) rfl (by kernel_rfl) (by kernel_rfl) (by kernel_rfl) (fun _ _ _ h => h) (Or.inl ⟨by kernel_rfl, fun U hU => by (dsimp only at hU; go_split_ands; go_simp; first | done | with_reducible rfl)⟩) (by assumption) ?_; (try simp only [Act.put, List.setIfInBounds_toArray, List.set_cons_zero, List.set_cons_succ])
  refine wpAnyH_take (i := 39) (oi := ⟨some 89, _, _, _, _, _⟩) (v := ?_) rfl (by kernel_rfl) (by kernel_rfl) (by kernel_rfl) (fun _ _ _ h => h) (Or.inl ⟨by kernel_rfl, fun U hU => by (dsimp only at hU; go_split_ands; go_simp; first | done | with_reducible rfl)⟩) (by assumption) ?_; (try simp only [Act.put, List.setIfInBounds_toArray, List.set_cons_zero, List.set_cons_succ])
  refine wpAnyH_take (i := 40) (oi := ⟨some 90, _, _, _, _, _⟩) (v := ?_) rfl (by kernel_rfl) (by kernel_rfl) (by kernel_rfl) (fun _ _ _ h => h) (Or.inl ⟨by kernel_rfl, fun U hU => by (dsimp only at hU; go_split_ands; go_simp; first | done | with_reducible rfl)⟩) (by assumption) ?_; (try simp only [Act.put, List.setIfInBounds_toArray, List.set_cons_zero, List.set_cons_succ])
  refine wpAnyH_take (i := 41) (oi := ⟨some 91, _, _, _, _, _⟩) (v := ?_) rfl (by kernel_rfl) (by kernel_rfl) (by kernel_rfl) (fun _ _ _ h => h) (Or.inl ⟨by kernel_rfl, fun U hU => by (dsimp only at hU; go_split_ands; go_simp; first | done | with_reducible rfl)⟩) (by assumption) ?_; (try simp only [Act.put, List.setIfInBounds_toArray, List.set_cons_zero, List.set_cons_succ])
  refine wpAnyH_take (i := 42) (oi := ⟨some 92, _, _, _, _, _⟩) (v := ?_) rfl (by kernel_rfl) (by kernel_rfl) (by kernel_rfl) (fun _ _ _ h => h) (Or.inl ⟨by kernel_rfl, fun U hU => by (dsimp only at hU; go_split_ands; go_simp; first | done | with_reducible rfl)⟩) (by assumption) ?_; (try simp only [Act.put, List.setIfInBounds_toArray, List.set_cons_zero, List.set_cons_succ])
  refine wpAnyH_take (i := 43) (oi := ⟨some 93, _, _, _, _, _⟩) (v := ?_) rfl (by kernel_rfl) (by kernel_rfl) (by kernel_rfl) (fun _ _ _ h => h) (Or.inl ⟨by kernel_rfl, fun U hU => by (dsimp only at hU; go_split_ands; go_simp; first | done | with_reducible rfl)⟩) (by assumption) ?_; (try simp only [Act.put, List.setIfInBounds_toArray, List.set_cons_zero, List.set_cons_succ])
  refine wpAnyH_take (i := 44) (oi := ⟨some 94, _, _, _, _, _⟩) (v := ?_) rfl (by kernel_rfl) (by kernel_rfl) (by kernel_rfl) (fun _ _ _ h => h) (Or.inl ⟨by kernel_rfl, fun U hU => by (dsimp only at hU; go_split_ands; go_simp; first | done | with_reducible rfl)⟩) (by assumption) ?_; (try simp only [Act.put, List.setIfInBounds_toArray, List.set_cons_zero, List.set_cons_succ])
  refine wpAnyH_ready (rs := [45]) (by kernel_rfl) (by simp) ?_
  refine AllReadyH.cons (o := ⟨some 95, _, _, _, _, _⟩) rfl (fun K hK => ?_) AllReadyH.nil
  go_simp
  go_at_call 21; (with_reducible refine (one7_any _).mono ?_); rintro e v9 ⟨rfl, hb⟩; have HB9 := Lib.hid (HB9.out.trans (hb.mono HB9.out.size)); have hS4 := HALL.out _ HB9.out; clear hb
  refine hK.out _ _ hS4 (fun hS5 => ?_)
  try simp only [Act.put, List.setIfInBounds_toArray, List.set_cons_zero, List.set_cons_succ]
  clear hK K hS1; have hS1 := hS4; clear hS4 hS5
  refine wpAnyH_ready (rs := [46]) (by kernel_rfl) (by simp) ?_
  refine AllReadyH.cons (o := ⟨some 96, _, _, _, _, _⟩) rfl (fun K hK => ?_) AllReadyH.nil
  go_simp
  obtain ⟨v8, hv8⟩ : ∃ v8, v9.alloc (.cells #[.int .i64 1, .int .u32 168230912, .int .i64 16, .int .i64 2, .int .i64 1] 36) = v8 := ⟨_, rfl⟩; have HS9 := Lib.hid (rsameD_yes q17 (some ⟨v9.heap.size, 0, none⟩) [v7] 1 c17 1 v8 (HLZ.out.next (show Below W17.heap.size W17 v8 from hv8 ▸ HB9.out.alloc HB9.out.size _)).at_ (hv8 ▸ lit7 v9) rfl (by unfold maxLen; decide)); have HB9 := Lib.hid (show Below W17.heap.size W17 v8 from hv8 ▸ HB9.out.alloc HB9.out.size _); have hS4 := HALL.out _ HB9.out; rw [hv8]; clear hv8
  refine hK.out _ _ hS4 (fun hS5 => ?_)
  try simp only [Act.put, List.setIfInBounds_toArray, List.set_cons_zero, List.set_cons_succ]
  clear hK K hS1; have hS1 := hS4; clear hS4 hS5
  refine wpAnyH_ready (rs := [47]) (by kernel_rfl) (by simp) ?_
  refine AllReadyH.cons (o := ⟨some 97, _, _, _, _, _⟩) rfl (fun K hK => ?_) AllReadyH.nil
  go_simp
  go_at_call 13; refine HS9.out.mono ?_; rintro e v9 ⟨rfl, hb⟩; have HB9 := Lib.hid (HB9.out.trans (hb.mono HB9.out.size)); have hS4 := HALL.out _ HB9.out; clear hb HS9
  refine hK.out _ _ hS4 (fun hS5 => ?_)
  try simp only [Act.put, List.setIfInBounds_toArray, List.set_cons_zero, List.set_cons_succ]
  clear hK K hS1; have hS1 := hS4; clear hS4 hS5
  refine wpAnyH_take (i := 48) (oi := ⟨some 98, _, _, _, _, _⟩) (v := ?_) rfl (by kernel_rfl) (by kernel_rfl) (by kernel_rfl) (fun _ _ _ h => h) (Or.inl ⟨by kernel_rfl, fun U hU => by (dsimp only at hU; go_split_ands; go_simp; first | done | with_reducible rfl)⟩) (by assumption) ?_; (try simp only [Act.put, List.setIfInBounds_toArray, List.set_cons_zero, List.set_cons_succ])
  refine wpAnyH_take (i := 49) (oi := ⟨some 99, _, _, _, _, _⟩) (v := ?_) rfl (by kernel_rfl) (by kernel_rfl) (by kernel_rfl) (fun _ _ _ h => h) (Or.inl ⟨by kernel_rfl, fun U hU => by (dsimp only at hU; go_split_ands; go_simp; first | done | with_reducible rfl)⟩) (by assumption) ?_; (try simp only [Act.put, List.setIfInBounds_toArray, List.set_cons_zero, List.set_cons_succ])
  refine wpAnyH_take (i := 50) (oi := ⟨some 100, _, _, _, _, _⟩) (v := ?_) rfl (by kernel_rfl) (by kernel_rfl) (by kernel_rfl) (fun _ _ _ h => h) (Or.inl ⟨by kernel_rfl, fun U hU => by (dsimp only at hU; go_split_ands; go_simp; first | done | with_reducible rfl)⟩) (by assumption) ?_; (try simp only [Act.put, List.setIfInBounds_toArray, List.set_cons_zero, List.set_cons_succ])
  refine wpAnyH_ready (rs := [51]) (by kernel_rfl) (by simp) ?_
  refine AllReadyH.cons (o := ⟨some 101, _, _, _, _, _⟩) rfl (fun K hK => ?_) AllReadyH.nil
  go_simp
  go_at_call 20; refine (tblen_any v9 g b 0 [] (H17.out.next HB9.out).tab).mono ?_; rintro e v8 ⟨rfl, rfl⟩; have hS4 := HALL.out _ HB9.out
  refine hK.out _ _ hS4 (fun hS5 => ?_)
  try simp only [Act.put, List.setIfInBounds_toArray, List.set_cons_zero, List.set_cons_succ]
  clear hK K hS1; have hS1 := hS4; clear hS4 hS5
  refine wpAnyH_take (i := 52) (oi := ⟨some 102, _, _, _, _, _⟩) (v := ?_) rfl (by kernel_rfl) (by kernel_rfl) (by kernel_rfl) (fun _ _ _ h => h) (Or.inl ⟨by kernel_rfl, fun U hU => by (dsimp only at hU; go_split_ands; go_simp; first | done | with_reducible rfl)⟩) (by assumption) ?_; (try simp only [Act.put, List.setIfInBounds_toArray, List.set_cons_zero, List.set_cons_succ])
  refine wpAnyH_take (i := 53) (oi := ⟨some 103, _, _, _, _, _⟩) (v := ?_) rfl (by kernel_rfl) (by kernel_rfl) (by kernel_rfl) (fun _ _ _ h => h) (Or.inl ⟨by kernel_rfl, fun U hU => by (dsimp only at hU; go_split_ands; go_simp; first | done | with_reducible rfl)⟩) (by assumption) ?_; (try simp only [Act.put, List.setIfInBounds_toArray, List.set_cons_zero, List.set_cons_succ])
  refine wpAnyH_take (i := 54) (oi := ⟨some 0, _, _, _, _, _⟩) (v := ?_) rfl (by kernel_rfl) (by kernel_rfl) (by kernel_rfl) (fun _ _ _ h => h) (Or.inl ⟨by kernel_rfl, fun U hU => by (dsimp only at hU; go_split_ands; go_simp; first | done | with_reducible rfl)⟩) (by assumption) ?_; (try simp only [Act.put, List.setIfInBounds_toArray, List.set_cons_zero, List.set_cons_succ])
  refine wpAnyH_done (by kernel_rfl) ?_ _
  go_wp2_with fail
  go_ret
  exact ⟨ret_bool (by simp), H17.out.bel.trans (HB9.out.mono H17.out.bel.size)⟩
end Go.Proofs.Ytjimnlpmmhcdjaa
