/- attributes of any length: own.Attrs. -/
import Derived.Test.YtljbebeaahcjaaaEI
import Derived.Deep.RegionLaw
namespace Go.Proofs.Ytljbebeaahcjaaa
open Go.RowKit Go.Maps
set_option linter.unusedVariables false
set_option linter.unusedSimpArgs false
set_option maxRecDepth 100000

theorem cells_setS : ∀ (L : List Sg) (rest : List Value) (i : Nat) (_ : i < L.length) (q : Option Addr) (n c : Nat) (A : List Int), ((cellsL sgC L ++ rest).set (i * 2 + 1) (.slice q n c)) = cellsL sgC (L.set i ⟨(L.getD i Sg.zero).set, q, n, c, A⟩) ++ rest
  | [], _, _, h, _, _, _, _ => absurd h (Nat.not_lt_zero _)
  | z :: t, rest, 0, _, q, n, c, A => rfl
  | z :: t, rest, i + 1, hi, q, n, c, A => by
    have ih := cells_setS t rest i (by simpa using hi) q n c A
    rw [show (i + 1) * 2 + 1 = (i * 2 + 1) + 2 by omega]
    exact congrArg (fun l => Value.bool z.set :: Value.slice z.q z.n z.c :: l) ih
theorem sg_at {w : World} {g : Nat} {L : List Sg} {rest : List Value} (h : Blk w g 42 (cellsL sgC L ++ rest)) (hok : ∀ x ∈ L, InSg x) : LAt sgC InSg Sg.zero 2 w (some ⟨g, 0, none⟩) L := by
  refine ⟨hok, .inr ⟨g, 0, rfl, fun i hi j v hv => ?_⟩⟩
  have hj : j < 2 := (List.getElem?_eq_some_iff.1 hv).1
  have hl := cellsL_len rowSg L
  rw [show 0 + i * 2 + j = i * 2 + j by omega]
  refine h.cellAt ?_
  rw [List.getElem?_append_left (by rw [hl]; omega), cellsL_get rowSg L i hi j hj]
  exact hv
theorem sg_blk {w : World} {B n cap : Nat} {q : Option Addr} {L : List Sg} (h : LOwn 42 sgC InSg 2 w B q n cap L) : L = [] ∨ ∃ g rest, q = some ⟨g, 0, none⟩ ∧ Blk w g 42 (cellsL sgC L ++ rest) ∧ B ≤ g := by
  rcases h.row.2 with ⟨hv, h0⟩ | ⟨g, c, cur, hv, hB, hh, _, _, hsz, htk⟩
  · exact .inl (List.eq_nil_of_length_eq_zero (by rw [h.len]; exact h0))
  · simp only [Value.slice.injEq] at hv
    obtain ⟨rfl, _, rfl⟩ := hv
    refine .inr ⟨g, cur.toList.drop (n * 2), rfl, ?_, hB⟩
    rw [← htk, List.take_append_drop]
    exact ⟨cur, hh, by simp, fun i hi => by simp at hi; simp [List.getD, hi]⟩
/-- Where a list of numbers may lie: below B, or from M on. -/
def FarI (B M : Nat) (q : Option Addr) (A : List Int) : Prop := A ≠ [] → ∀ b off, q = some ⟨b, off, none⟩ → b < B ∨ M ≤ b
theorem isAt_far {w w' : World} {q : Option Addr} {A : List Int} {B M : Nat} (h : IsAt w q A) (hf : FarI B M q A) {S : Nat → Prop} (hT : Turns S w w') (hS : ∀ k, S k → B ≤ k ∧ k < M) : IsAt w' q A := by
  by_cases e : A = []
  · subst e; exact LAt.nil _ _ _ _ _ _
  · exact LAt.turns h hT fun b off hq hs => by
      have h1 := hf e b off hq
      have h2 := hS b hs
      omega
/-- A list of numbers that lies from M on. -/
def NewI (M : Nat) (q : Option Addr) (A : List Int) : Prop := A ≠ [] → ∀ b off, q = some ⟨b, off, none⟩ → M ≤ b
/-- Attributes: their cells, and their lists. -/
structure Ao where
  intro ::
  og : Int
  p1 : Option Addr
  n1 : Nat
  c1 : Nat
  L : List Sg
  nx : Int
  md : Int
  pf : Int
  p2 : Option Addr
  n2 : Nat
  c2 : Nat
  K : List Int
abbrev aoV (x : Ao) : Value := .agg #[.int .i64 x.og, .slice x.p1 x.n1 x.c1, .int .u32 x.nx, .int .i64 x.md, .int .i64 x.pf, .slice x.p2 x.n2 x.c2]
structure AoAt (w : World) (x : Ao) : Prop where
  intro ::
  path : SgsAt w x.p1 x.L
  pl : x.L.length = x.n1
  ps : SlOk x.p1 x.n1 x.c1 32
  com : IsAt w x.p2 x.K
  cl : x.K.length = x.n2
  cs : SlOk x.p2 x.n2 x.c2 8
  u0 : 0 ≤ x.nx
  u1 : x.nx ≤ 4294967295
theorem AoAt.below {w w' : World} {x : Ao} (h : AoAt w x) (hb : Below w.heap.size w w') : AoAt w' x := ⟨h.path.below hb, h.pl, h.ps, h.com.below hb, h.cl, h.cs, h.u0, h.u1⟩
/-- The same is said. -/
structure AoLike (x y : Ao) : Prop where
  intro ::
  og : y.og = x.og
  nx : y.nx = x.nx
  md : y.md = x.md
  pf : y.pf = x.pf
  L : y.L.map sgK = x.L.map sgK
  K : y.K = x.K
/-- Attributes whose lists lie from B on. -/
structure AoNew (B : Nat) (y : Ao) : Prop where
  intro ::
  path : y.L ≠ [] → ∀ b off, y.p1 = some ⟨b, off, none⟩ → B ≤ b
  nums : ∀ x ∈ y.L, NewI B x.q x.A
  com : NewI B y.p2 y.K
theorem AoNew.mono {B B' : Nat} {y : Ao} (h : AoNew B y) (hB : B' ≤ B) : AoNew B' y :=
  ⟨fun a b c d => Nat.le_trans hB (h.path a b c d), fun x hx a b c d => Nat.le_trans hB (h.nums x hx a b c d), fun a b c d => Nat.le_trans hB (h.com a b c d)⟩
theorem newI_at {w w' : World} {q : Option Addr} {A : List Int} {B : Nat} (h : IsAt w q A) (hf : NewI B q A) {S : Nat → Prop} (hT : Turns S w w') (hS : ∀ k, S k → k < B) : IsAt w' q A := by
  by_cases e : A = []
  · subst e; exact LAt.nil _ _ _ _ _ _
  · exact LAt.turns h hT fun b off hq hs => by
      have h1 := hf e b off hq
      have h2 := hS b hs
      omega
theorem AoAt.turns {w w' : World} {y : Ao} {B : Nat} (h : AoAt w y) (hn : AoNew B y) {S : Nat → Prop} (hT : Turns S w w') (hS : ∀ k, S k → k < B) : AoAt w' y := by
  refine ⟨⟨?_, fun x hx => newI_at (h.path.nums x hx) (hn.nums x hx) hT hS⟩, h.pl, h.ps, newI_at h.com hn.com hT hS, h.cl, h.cs, h.u0, h.u1⟩
  by_cases e : y.L = []
  · rw [e]; exact LAt.nil _ _ _ _ _ _
  · exact LAt.turns h.path.at_ hT fun b off hq hs => by
      have h1 := hn.path e b off hq
      have h2 := hS b hs
      omega
def AoTo (w w' : World) (x : Ao) (e : Ending) : Prop := ∃ y, e = .returned (aoV y) ∧ AoAt w' y ∧ AoLike x y ∧ AoNew w.heap.size y ∧ Below w.heap.size w w'
theorem clone_ints2 (w : World) (p : Option Addr) (l : List Int) (n c : Nat) (h : IsAt w p l) (hn : l.length = n) (hs : SlOk p n c 8) :
    Calls Try.prog 70 #[.slice p n c] w fun e w' => ∃ q c', e = .returned (.slice q n c') ∧ IsAt w' q l ∧ SlOk q n c' 8 ∧ (∀ b off, q = some ⟨b, off, none⟩ → w.heap.size ≤ b) ∧ Below w.heap.size w w' := by
  refine (clone_ints w p l n c h hn hs).mono ?_
  rintro e w' ⟨q, c', rfl, h1, h2, h3, h4⟩
  exact ⟨q, c', rfl, h1, h2, h3, h4⟩
theorem turns_out (u : World) (P : Nat) (v5 a0 a1 a2 a3 a4 a5 : Value) : Turns (fun k => k = P ∨ k = P + 1) u (((((((u.setCell ⟨P, 5, none⟩ v5).setCell ⟨P + 1, 0, none⟩ a0).setCell ⟨P + 1, 1, none⟩ a1).setCell ⟨P + 1, 2, none⟩ a2).setCell ⟨P + 1, 3, none⟩ a3).setCell ⟨P + 1, 4, none⟩ a4).setCell ⟨P + 1, 5, none⟩ a5) := by
  have hP : ∀ j, (fun k => k = P ∨ k = P + 1) (⟨P, j, none⟩ : Addr).block ∨ u.heap.size ≤ (⟨P, j, none⟩ : Addr).block := fun j => .inl (.inl rfl)
  have hQ : ∀ j, (fun k => k = P ∨ k = P + 1) (⟨P + 1, j, none⟩ : Addr).block ∨ u.heap.size ≤ (⟨P + 1, j, none⟩ : Addr).block := fun j => .inl (.inr rfl)
  have h0 := (Turns.refl (fun k => k = P ∨ k = P + 1) u).setCell (hP 5) v5
  have h1 := h0.setCell (hQ 0) a0
  have h2 := h1.setCell (hQ 1) a1
  have h3 := h2.setCell (hQ 2) a2
  have h4 := h3.setCell (hQ 3) a3
  have h5 := h4.setCell (hQ 4) a4
  exact h5.setCell (hQ 5) a5
set_option maxHeartbeats 8000000 in
theorem ownattrs_any (w : World) (x : Ao) (h : AoAt w x) : Calls Try.prog 62 #[aoV x] w fun e w' => AoTo w w' x e := by
  obtain ⟨og, p1, n1, c1, L, nx, md, pf, p2, n2, c2, K⟩ := x
  have HH := Lib.hid h
  have hU := two_below w (.cells #[.int .i64 og, .slice p1 n1 c1, .int .u32 nx, .int .i64 md, .int .i64 pf, .slice p2 n2 c2] 33) (.cells #[.int .i64 0, .slice none 0 0, .int .u32 0, .int .i64 0, .int .i64 0, .slice none 0 0] 33)
  have hP := (Blk.new w 33 [.int .i64 og, .slice p1 n1 c1, .int .u32 nx, .int .i64 md, .int .i64 pf, .slice p2 n2 c2]).alloc (.cells #[.int .i64 0, .slice none 0 0, .int .u32 0, .int .i64 0, .int .i64 0, .slice none 0 0] 33)
  have hQ := Blk.new (w.alloc (.cells #[.int .i64 og, .slice p1 n1 c1, .int .u32 nx, .int .i64 md, .int .i64 pf, .slice p2 n2 c2] 33)) 33 [.int .i64 0, .slice none 0 0, .int .u32 0, .int .i64 0, .int .i64 0, .slice none 0 0]
  rw [sz_alloc] at hQ
  obtain ⟨U, hUE⟩ : ∃ U, (w.alloc (.cells #[.int .i64 og, .slice p1 n1 c1, .int .u32 nx, .int .i64 md, .int .i64 pf, .slice p2 n2 c2] 33)).alloc (.cells #[.int .i64 0, .slice none 0 0, .int .u32 0, .int .i64 0, .int .i64 0, .slice none 0 0] 33) = U := ⟨_, rfl⟩
  have hUS : U.heap.size = w.heap.size + 1 + 1 := by rw [← hUE, sz_alloc, sz_alloc]
  change Blk ((w.alloc (.cells #[.int .i64 og, .slice p1 n1 c1, .int .u32 nx, .int .i64 md, .int .i64 pf, .slice p2 n2 c2] 33)).alloc (.cells #[.int .i64 0, .slice none 0 0, .int .u32 0, .int .i64 0, .int .i64 0, .slice none 0 0] 33)) _ _ _ at hP
  change Blk ((w.alloc (.cells #[.int .i64 og, .slice p1 n1 c1, .int .u32 nx, .int .i64 md, .int .i64 pf, .slice p2 n2 c2] 33)).alloc (.cells #[.int .i64 0, .slice none 0 0, .int .u32 0, .int .i64 0, .int .i64 0, .slice none 0 0] 33)) _ _ _ at hQ
  rw [hUE] at hU hP hQ
  obtain ⟨P, hPE⟩ : ∃ P, w.heap.size = P := ⟨_, rfl⟩
  rw [hPE] at hP
  rw [show w.heap.size + 1 = P + 1 by rw [hPE]] at hQ
  have HUE := Lib.hid hUE
  have HPE := Lib.hid hPE
  have HU := Lib.hid hU
  have HUS := Lib.hid (show U.heap.size = P + 1 + 1 by rw [hUS, hPE])
  have HP := Lib.hid hP
  have HQ := Lib.hid hQ
  have HCS := Lib.hid (clone_segs U p1 L n1 c1 (h.path.at_.below hU) h.pl h.ps)
  have p1c : U.cell? ⟨P, 1, none⟩ = some (.slice p1 n1 c1) := hP.cellAt rfl
  have hm1 : n1 ≤ 9223372036854775807 := Nat.le_trans (Nat.le_trans h.ps.le h.ps.max) (by unfold maxLen; decide)
  clear h hU hP hQ hUE hUS hPE
  go_enter Try.func62, Try.ntmps62
  go_wp2_with fail
  rw [HUE.out, HPE.out]
  refine HCS.out.mono ?_
  rintro e W1 ⟨q, c', rfl, hown, hso, hB1⟩
  have HOW := Lib.hid hown
  have HSO := Lib.hid hso
  have HB1 := Lib.hid hB1
  have HP1 := Lib.hid (HP.out.next hB1)
  have HQ1 := Lib.hid (HQ.out.next hB1)
  have p1c : W1.cell? ⟨P, 1, none⟩ = some (.slice p1 n1 c1) := HP1.out.cellAt rfl
  have f1c := HP1.out.f 1
  clear hown hso hB1 HCS
  go_wp2_with fail
  obtain ⟨W2, hW2⟩ : ∃ W, W1.setCell ⟨P, 1, none⟩ (.slice q n1 c') = W := ⟨_, rfl⟩
  have hT2 : Turns (fun k => k = P) W1 W2 := hW2 ▸ (Turns.refl (fun k => k = P) W1).setCell (p := ⟨P, 1, none⟩) (.inl rfl) _
  have HW2 := Lib.hid hW2
  have HP2 := Lib.hid (show Blk W2 P 33 [.int .i64 og, .slice q n1 c', .int .u32 nx, .int .i64 md, .int .i64 pf, .slice p2 n2 c2] from hW2 ▸ HP1.out.set 1 _)
  have HQ2 := Lib.hid (show Blk W2 (P + 1) 33 [.int .i64 0, .slice none 0 0, .int .u32 0, .int .i64 0, .int .i64 0, .slice none 0 0] from hW2 ▸ HQ1.out.setOther (by show P + 1 ≠ P; omega) _)
  have hM : W2.heap.size = W1.heap.size := by rw [← hW2]; simp
  obtain ⟨M, hME⟩ : ∃ M, W1.heap.size = M := ⟨_, rfl⟩
  have HB2 := Lib.hid (show Below w.heap.size w W2 from (HU.out.trans (HB1.out.mono HU.out.size)).trans (hT2.below (Nat.le_trans HU.out.size HB1.out.size) fun k hk => by have hk : k = P := hk; rw [hk, HPE.out]; exact Nat.le_refl _))
  have HPM := Lib.hid (show P + 1 < M ∧ w.heap.size = P from ⟨by have h1 := HUS.out; have h2 := HB1.out.size; omega, HPE.out⟩)
  have hblk := sg_blk HOW.out
  have HG2 := Lib.hid (show L = [] ∨ ∃ g rest, q = some ⟨g, 0, none⟩ ∧ Blk W2 g 42 (cellsL sgC L ++ rest) ∧ P + 1 < g ∧ g < M from by
    rcases hblk with e | ⟨g, rest, hq, hb, hg⟩
    · exact .inl e
    · have h1 := HUS.out
      exact .inr ⟨g, rest, hq, hW2 ▸ hb.setOther (by show g ≠ P; omega) _, by omega, hME ▸ hb.lt⟩)
  have HF0 := Lib.hid (show ∀ x ∈ L, FarI w.heap.size M x.q x.A from fun x hx hne b off hq => .inl (LAt.lt rowIn (HH.out.path.nums x hx) hne hq))
  have hM2 : W2.heap.size = M := hM.trans hME
  have HM2 := Lib.hid hM2
  clear hT2 hW2 hM hME hblk hM2 p1c f1c
  rw [HW2.out]
  go_loopw [11] (fun iv wr => ∃ (k : Nat) (Lk : List Sg), k ≤ n1 ∧ iv = .int .i64 k ∧ (Lk.length = n1 ∧ Lk.map sgK = L.map sgK) ∧ (∀ x ∈ Lk, InSg x ∧ IsAt wr x.q x.A ∧ FarI w.heap.size M x.q x.A) ∧ (∀ j, j < k → NewI M (Lk.getD j Sg.zero).q (Lk.getD j Sg.zero).A) ∧ (Lk = [] ∨ ∃ g rest, q = some ⟨g, 0, none⟩ ∧ Blk wr g 42 (cellsL sgC Lk ++ rest) ∧ P + 1 < g ∧ g < M) ∧ (Blk wr P 33 [.int .i64 og, .slice q n1 c', .int .u32 nx, .int .i64 md, .int .i64 pf, .slice p2 n2 c2] ∧ Blk wr (P + 1) 33 [.int .i64 0, .slice none 0 0, .int .u32 0, .int .i64 0, .int .i64 0, .slice none 0 0]) ∧ M ≤ wr.heap.size ∧ Below w.heap.size w wr) (fun iv _ => n1 - (intOf iv).toNat)
  case atStart => exact ⟨0, L, Nat.zero_le _, rfl, ⟨HH.out.pl, rfl⟩, fun x hx => ⟨HH.out.path.at_.ok x hx, (HH.out.path.nums x hx).below HB2.out, HF0.out x hx⟩, fun j hj => absurd hj (Nat.not_lt_zero _), HG2.out, ⟨HP2.out, HQ2.out⟩, Nat.le_of_eq HM2.out.symm, HB2.out⟩
  case round =>
    obtain ⟨k, Lk, hk, rfl, ⟨hlen, hmap⟩, hel, hnw, hgb, ⟨hp, hqb⟩, hmw, hB⟩ := hrel
    have HLEN := Lib.hid hlen
    have HMAP := Lib.hid hmap
    have HEL := Lib.hid hel
    have HGB := Lib.hid hgb
    have HNW := Lib.hid hnw
    have HPB := Lib.hid hp
    have HQB := Lib.hid hqb
    have HMW := Lib.hid hmw
    have HB := Lib.hid hB
    clear hlen hmap hel hnw hgb hp hqb hmw hB
    have p1c : wr.cell? ⟨P, 1, none⟩ = some (.slice q n1 c') := HPB.out.cellAt rfl
    by_cases hlt : k < n1
    · have hltI : (k : Int) < (n1 : Int) := by omega
      have hkl : k < Lk.length := by rw [HLEN.out]; exact hlt
      obtain ⟨g, rest, rfl, hgbk, hg1, hg2⟩ : ∃ g rest, q = some ⟨g, 0, none⟩ ∧ Blk wr g 42 (cellsL sgC Lk ++ rest) ∧ P + 1 < g ∧ g < M := by
        rcases HGB.out with e | h
        · rw [e] at hkl; simp at hkl
        · exact h
      have HBK := Lib.hid hgbk
      have HG12 := Lib.hid (And.intro hg1 hg2)
      obtain ⟨b, off, hbo, hc⟩ := (sg_at hgbk fun x hx => (HEL.out x hx).1).cell HLEN.out hlt
      simp only [Option.some.injEq, Addr.mk.injEq, and_true] at hbo
      obtain ⟨rfl, rfl⟩ := hbo
      have hs0 := hc 0 _ rfl
      have hs1 := hc 1 _ rfl
      obtain ⟨x, hx⟩ : ∃ x, Lk.getD k Sg.zero = x := ⟨_, rfl⟩
      rw [hx] at hs0 hs1
      have hs1 : wr.cell? ⟨g, k * 2 + 1, none⟩ = some (.slice x.q x.n x.c) := by rw [← hs1]; congr 2; omega
      have hxm : x ∈ Lk := by rw [← hx]; simp [List.getD, hkl]
      obtain ⟨hxi, hxa, hxf⟩ := HEL.out x hxm
      have HXE := Lib.hid hx
      have HXI := Lib.hid hxi
      have HXA := Lib.hid hxa
      have HCL := Lib.hid (fun u (hu : Below wr.heap.size wr u) => clone_ints2 u x.q x.A x.n x.c (hxa.below hu) hxi.1 hxi.2)
      have fg1 := hgbk.f (k * 2 + 1)
      have q1c : wr.drew.cell? ⟨P, 1, none⟩ = some (.slice (some ⟨g, 0, none⟩) n1 c') := p1c
      have q2c : wr.drew.cell? ⟨g, k * 2 + 1, none⟩ = some (.slice x.q x.n x.c) := hs1
      have HK1 := Lib.hid (show k + 1 ≤ n1 from hlt)
      have HEND := Lib.hid (fun (u : World) (hu : Below wr.heap.size wr u) (q3 : Option Addr) (c3 : Nat) (hq3 : IsAt u q3 x.A) (hs3 : SlOk q3 x.n c3 8) (hl3 : ∀ b off, q3 = some ⟨b, off, none⟩ → wr.heap.size ≤ b) => show ((Lk.set k ⟨x.set, q3, x.n, c3, x.A⟩).length = n1 ∧ (Lk.set k ⟨x.set, q3, x.n, c3, x.A⟩).map sgK = L.map sgK) ∧ (∀ y ∈ Lk.set k ⟨x.set, q3, x.n, c3, x.A⟩, InSg y ∧ IsAt (u.setCell ⟨g, k * 2 + 1, none⟩ (.slice q3 x.n c3)) y.q y.A ∧ FarI w.heap.size M y.q y.A) ∧ (∀ j, j < k + 1 → NewI M ((Lk.set k ⟨x.set, q3, x.n, c3, x.A⟩).getD j Sg.zero).q ((Lk.set k ⟨x.set, q3, x.n, c3, x.A⟩).getD j Sg.zero).A) ∧ (∃ g' rest, (some ⟨g, 0, none⟩ : Option Addr) = some ⟨g', 0, none⟩ ∧ Blk (u.setCell ⟨g, k * 2 + 1, none⟩ (.slice q3 x.n c3)) g' 42 (cellsL sgC (Lk.set k ⟨x.set, q3, x.n, c3, x.A⟩) ++ rest) ∧ P + 1 < g' ∧ g' < M) ∧ (Blk (u.setCell ⟨g, k * 2 + 1, none⟩ (.slice q3 x.n c3)) P 33 [.int .i64 og, .slice (some ⟨g, 0, none⟩) n1 c', .int .u32 nx, .int .i64 md, .int .i64 pf, .slice p2 n2 c2] ∧ Blk (u.setCell ⟨g, k * 2 + 1, none⟩ (.slice q3 x.n c3)) (P + 1) 33 [.int .i64 0, .slice none 0 0, .int .u32 0, .int .i64 0, .int .i64 0, .slice none 0 0]) ∧ M ≤ (u.setCell ⟨g, k * 2 + 1, none⟩ (.slice q3 x.n c3)).heap.size ∧ Below w.heap.size w (u.setCell ⟨g, k * 2 + 1, none⟩ (.slice q3 x.n c3)) from by
        have hT : Turns (fun k => k = g) u (u.setCell ⟨g, k * 2 + 1, none⟩ (.slice q3 x.n c3)) := (Turns.refl (fun k => k = g) u).setCell (p := ⟨g, k * 2 + 1, none⟩) (.inl rfl) _
        have hgM := HG12.out
        have hPM := HPM.out
        have hgS : ∀ k, k = g → w.heap.size ≤ k ∧ k < M := fun k hk => by omega
        have hfar3 : FarI w.heap.size M q3 x.A := fun _ b off e => .inr (Nat.le_trans HMW.out (hl3 b off e))
        refine ⟨⟨by rw [List.length_set]; exact HLEN.out, ?_⟩, fun y hy => ?_, fun j hj => ?_, ⟨g, rest, rfl, ?_, hgM.1, hgM.2⟩, ⟨(HPB.out.next hu).setOther (by show P ≠ g; omega) _, (HQB.out.next hu).setOther (by show P + 1 ≠ g; omega) _⟩, Nat.le_trans HMW.out (Nat.le_trans hu.size hT.size), (HB.out.trans (hu.mono HB.out.size)).trans (hT.below (Nat.le_trans HB.out.size hu.size) fun k hk => (hgS k hk).1)⟩
        · rw [List.map_set, ← HMAP.out]
          refine List.ext_getElem (by simp) fun i h1 h2 => ?_
          rw [List.getElem_set]
          split
          · rename_i e
            subst e
            have : Lk[k]'hkl = x := by rw [← HXE.out]; simp [List.getD, hkl]
            rw [List.getElem_map, this]; rfl
          · rfl
        · rcases List.mem_or_eq_of_mem_set hy with h | rfl
          · obtain ⟨h1, h2, h3⟩ := HEL.out y h
            exact ⟨h1, isAt_far (h2.below hu) h3 hT hgS, h3⟩
          · exact ⟨⟨HXI.out.1, hs3⟩, isAt_far hq3 hfar3 hT hgS, hfar3⟩
        · by_cases e : j = k
          · subst e
            rw [show (Lk.set j ⟨x.set, q3, x.n, c3, x.A⟩).getD j Sg.zero = ⟨x.set, q3, x.n, c3, x.A⟩ by simp [List.getD, hkl]]
            exact fun _ b off e => Nat.le_trans HMW.out (hl3 b off e)
          · rw [show (Lk.set k ⟨x.set, q3, x.n, c3, x.A⟩).getD j Sg.zero = Lk.getD j Sg.zero by simp [List.getD, List.getElem?_set, Ne.symm e]]
            exact HNW.out j (by omega)
        · have h1 := (HBK.out.next hu).set (k * 2 + 1) (.slice q3 x.n c3)
          rw [cells_setS Lk rest k hkl q3 x.n c3 x.A, HXE.out] at h1
          exact h1)
      clear hgbk hg1 hg2 hc hs0 hx hxm hxi hxa hxf fg1
      go_wp2_with fail
      go_region_law (first | (go_simp; go_at_call 70; refine (HCL.out wr.drew (Below.refl _ _).drew).mono ?_; rintro e u ⟨q3, c3, rfl, hq3, hs3, hl3, hb3⟩; have HQ3 := Lib.hid hq3; have HS3 := Lib.hid hs3; have HL3 := Lib.hid hl3; have HBu := Lib.hid (show Below wr.heap.size wr u from (Below.refl wr.heap.size wr).drew.trans hb3); have e1c : u.cell? ⟨P, 1, none⟩ = some (.slice (some ⟨g, 0, none⟩) n1 c') := kept HBu.out p1c; have e2c : u.cell? ⟨g, k * 2 + 1, none⟩ = some (.slice x.q x.n x.c) := kept HBu.out hs1; have fg1 := (HBK.out.next HBu.out).f (k * 2 + 1); clear hq3 hs3 hl3 hb3))
      all_goals
        have hend := HEND.out u HBu.out q3 c3 HQ3.out HS3.out HL3.out
        go_wp2_with fail
        go_roundw
        case rel => exact ⟨k + 1, _, HK1.out, by go_num, hend.1, hend.2.1, hend.2.2.1, .inr hend.2.2.2.1, hend.2.2.2.2.1, hend.2.2.2.2.2.1, hend.2.2.2.2.2.2⟩
        case measure => have h1 := HK1.out; simp [intOf]; omega
    · obtain rfl : k = n1 := by omega
      have hkI : ¬ (k : Int) < (k : Int) := by omega
      have p5c : wr.cell? ⟨P, 5, none⟩ = some (.slice p2 n2 c2) := HPB.out.cellAt rfl
      have HCK := Lib.hid (clone_ints2 wr p2 K n2 c2 (HH.out.com.below HB.out) HH.out.cl HH.out.cs)
      have hend : ∀ (u W9 : World) (q5 : Option Addr) (c5 : Nat), Below wr.heap.size wr u → Turns (fun k => k = P ∨ k = P + 1) u W9 → IsAt u q5 K → SlOk q5 n2 c5 8 → (∀ b off, q5 = some ⟨b, off, none⟩ → wr.heap.size ≤ b) → AoAt W9 ⟨og, q, k, c', Lk, nx, md, pf, q5, n2, c5, K⟩ ∧ AoNew w.heap.size ⟨og, q, k, c', Lk, nx, md, pf, q5, n2, c5, K⟩ ∧ Below w.heap.size w W9 := fun u W9 q5 c5 hu hT h5 s5 l5 => by
        have hPM := HPM.out
        have hgS : ∀ k, (k = P ∨ k = P + 1) → w.heap.size ≤ k ∧ k < M := fun k hk => by rcases hk with e | e <;> omega
        refine ⟨⟨⟨?_, fun y hy => ?_⟩, HLEN.out, HSO.out, isAt_far h5 (fun _ b off e => .inr (Nat.le_trans HMW.out (l5 b off e))) hT hgS, HH.out.cl, s5, HH.out.u0, HH.out.u1⟩, ⟨?_, fun y hy => ?_, fun _ b off e => by have h1 := l5 b off e; have h2 := HMW.out; show w.heap.size ≤ b; omega⟩, (HB.out.trans (hu.mono HB.out.size)).trans (hT.below (Nat.le_trans HB.out.size hu.size) fun k hk => (hgS k hk).1)⟩
        · rcases HGB.out with e | ⟨g, rest, e, hb, h1, h2⟩
          · subst e; exact LAt.nil _ _ _ _ _ _
          · rw [e]
            exact sg_at ((hb.next hu).of_same (hT.block g (Nat.lt_of_lt_of_le hb.lt hu.size) (by rintro (e | e) <;> omega))) fun y hy => (HEL.out y hy).1
        · obtain ⟨h1, h2, h3⟩ := HEL.out y hy
          exact isAt_far (h2.below hu) h3 hT hgS
        · intro hne b off e
          rcases HGB.out with e2 | ⟨g, rest, e2, _, h1, _⟩
          · exact absurd e2 hne
          · have e : q = some ⟨b, off, none⟩ := e
            rw [e2] at e
            simp only [Option.some.injEq, Addr.mk.injEq] at e
            obtain ⟨rfl, _⟩ := e
            omega
        · obtain ⟨j, hj, e⟩ := List.getElem_of_mem hy
          have h1 := HNW.out j (by rw [← HLEN.out]; exact hj)
          rw [show Lk.getD j Sg.zero = y by rw [← e]; simp [List.getD, hj]] at h1
          exact fun a b c d => by have h2 := h1 a b c d; show w.heap.size ≤ b; omega
      have HEND := Lib.hid hend
      clear hend p1c
      go_wp2_with (go_at_call 70; refine HCK.out.mono ?_; rintro e u ⟨q5, c5, rfl, h5, s5, l5, b5⟩; have HPu := Lib.hid (HPB.out.next b5); have HQu := Lib.hid (HQB.out.next b5); have HE5 := Lib.hid (HEND.out u _ q5 c5 b5 (turns_out u P (.slice q5 n2 c5) (.int .i64 og) (.slice q k c') (.int .u32 nx) (.int .i64 md) (.int .i64 pf) (.slice q5 n2 c5)) h5 s5 l5); clear h5 s5 l5 b5 p5c; have pc0 := HPu.out.cell 0 (by simp); have pc1 := HPu.out.cell 1 (by simp); have pc2 := HPu.out.cell 2 (by simp); have pc3 := HPu.out.cell 3 (by simp); have pc4 := HPu.out.cell 4 (by simp); have pc5 := HPu.out.cell 5 (by simp); have fp5 := HPu.out.f 5; have qc0 := HQu.out.cell 0 (by simp); have fq0 := HQu.out.f 0; have qc1 := HQu.out.cell 1 (by simp); have fq1 := HQu.out.f 1; have qc2 := HQu.out.cell 2 (by simp); have fq2 := HQu.out.f 2; have qc3 := HQu.out.cell 3 (by simp); have fq3 := HQu.out.f 3; have qc4 := HQu.out.cell 4 (by simp); have fq4 := HQu.out.f 4; have qc5 := HQu.out.cell 5 (by simp); have fq5 := HQu.out.f 5)
      ((try simp only [Exit.inBlock, Exit.then]); refine bodyPost_ret (v := .agg #[.int .i64 og, .slice q k c', .int .u32 nx, .int .i64 md, .int .i64 pf, .slice q5 n2 c5]) (by simp [results, Try.results62, go_sem, pc0, pc1, pc2, pc3, pc4, pc5, qc0, qc1, qc2, qc3, qc4, qc5]) rfl ⟨_, rfl, HE5.out.1, ⟨rfl, rfl, rfl, rfl, HMAP.out, rfl⟩, HE5.out.2.1, HE5.out.2.2⟩)
end Go.Proofs.Ytljbebeaahcjaaa
