/- nlri: Get. -/
import Derived.Test.YtgmcjejgginpjaaNl3
namespace Go.Proofs.Ytgmcjejgginpjaa
open Go.RowKit

theorem infoNl : (Try.prog.info? 41).map (fun i => (i.zero, i.size, i.bytes)) = some (some (.agg #[.int .i64 0, .int .u32 0, .int .i64 0]), 3, 24) := by kernel_rfl
theorem gb_belowN {a b : World} {r : Option Nat} (h : Below a.heap.size a b) : a.grownBy b r :=
  ⟨h.os, h.tape, h.output, h.size, fun i hi _ => h.block i hi⟩
theorem rowN_below {w w' : World} {B : Nat} {E : TypeId} {size : Nat} {v : Value} {n : Nat} {xs : List Value} (h : w.ownsRow B E size v n xs) (hb : Below w.heap.size w w') : w'.ownsRow B E size v n xs := by
  refine h.kept (row := none) (gb_belowN hb) ?_
  rcases hv : v.ownBlock with _ | g
  · exact .inl rfl
  · exact .inr (by simp)
theorem rowN_form {w : World} {B : Nat} {E : TypeId} {size : Nat} {v : Value} {n : Nat} {xs : List Value} (h : w.ownsRow B E size v n xs) :
    ∃ p c, v = .slice p n c ∧ n ≤ c ∧ c ≤ maxLen := by
  rcases h.2 with ⟨rfl, rfl⟩ | ⟨g, cap, cur, rfl, _, _, h1, h2, _⟩
  · exact ⟨none, 0, rfl, Nat.le_refl _, by unfold maxLen; omega⟩
  · exact ⟨_, cap, rfl, h1, h2⟩
theorem add_litN (b off j : Nat) : (⟨b, off, none⟩ : Addr).add j = ⟨b, off + j, none⟩ := by unfold Addr.add; split <;> simp_all
def ncells (l : List Nl) : List Value := l.flatMap nlC
theorem ncells_get (l : List Nl) (i : Nat) (h : i < l.length) : (ncells l)[i * 3]? = some (.int .i64 (l.getD i Nl.none).id) ∧ (ncells l)[i * 3 + 1]? = some (.int .u32 (l.getD i Nl.none).addr) ∧ (ncells l)[i * 3 + 2]? = some (.int .i64 (l.getD i Nl.none).len) := by
  induction l generalizing i with
  | nil => simp at h
  | cons a t ih =>
    unfold ncells at *
    rw [List.flatMap_cons]
    cases i with
    | zero => simp [nlC]
    | succ i =>
      have := ih i (by simpa using h)
      rw [show (i + 1) * 3 = i * 3 + 3 from by omega, show i * 3 + 3 + 1 = (i * 3 + 1) + 3 from by omega, show i * 3 + 3 + 2 = (i * 3 + 2) + 3 from by omega]
      simpa [nlC] using this
/-- A list of the call's own. -/
structure NlsOwn (w : World) (B : Nat) (q : Option Addr) (n cap : Nat) (l : List Nl) : Prop where
  len : l.length = n
  addr : ∀ i, i < l.length → InAddr (l.getD i Nl.none)
  row : w.ownsRow B 41 3 (.slice q n cap) n (ncells l)
theorem NlsOwn.nil (w : World) (B : Nat) : NlsOwn w B none 0 0 [] := ⟨rfl, fun i hi => by simp at hi, World.ownsRow_nil _ _ _ _⟩
theorem NlsOwn.below {w w' : World} {B n cap : Nat} {q : Option Addr} {l : List Nl} (h : NlsOwn w B q n cap l) (hb : Below w.heap.size w w') : NlsOwn w' B q n cap l := ⟨h.len, h.addr, rowN_below h.row hb⟩
theorem NlsOwn.mono {w : World} {B B' n cap : Nat} {q : Option Addr} {l : List Nl} (h : NlsOwn w B q n cap l) (hB : B' ≤ B) : NlsOwn w B' q n cap l := ⟨h.len, h.addr, h.row.mono hB⟩
theorem NlsOwn.cap {w : World} {B n cap : Nat} {q : Option Addr} {l : List Nl} (h : NlsOwn w B q n cap l) : n ≤ cap ∧ cap ≤ maxLen := by
  obtain ⟨p, c, hv, h1, h2⟩ := rowN_form h.row
  simp only [Value.slice.injEq] at hv
  obtain ⟨_, _, rfl⟩ := hv
  exact ⟨h1, h2⟩
theorem NlsOwn.at {w : World} {B n cap : Nat} {q : Option Addr} {l : List Nl} (h : NlsOwn w B q n cap l) : NlsAt w q l := by
  refine ⟨h.addr, ?_⟩
  rcases h.row.2 with ⟨hv, h0⟩ | ⟨g, cap', cur, hv, _⟩
  · left
    have := h.len
    simp only [Value.slice.injEq] at hv
    exact List.eq_nil_of_length_eq_zero (by omega)
  · simp only [Value.slice.injEq] at hv
    obtain ⟨rfl, _, rfl⟩ := hv
    refine .inr ⟨g, 0, rfl, fun i hi => ?_⟩
    obtain ⟨e0, e1, e2⟩ := ncells_get l i hi
    have c0 := h.row.cells (g := g) rfl (i * 3) _ e0
    have c1 := h.row.cells (g := g) rfl (i * 3 + 1) _ e1
    have c2 := h.row.cells (g := g) rfl (i * 3 + 2) _ e2
    rw [add_litN] at c0 c1 c2
    exact ⟨c0, c1, c2⟩
theorem wpList_appn {ops : Array Oper} {rest : List Oper} {o : Oper} {a : Act} {w : World} {Q : Exit → Act → World → Prop} (hgd : o.guard = none) (s x : Operand)
    (ho : o.op = .call { callee := .builtin .append, args := #[s, x], argTypes := #[22, 22] })
    (B : Nat) (q : Option Addr) (cap n : Nat) (l : List Nl) (hown : NlsOwn w B q n cap l) (hs : a.eval s = .slice q n cap)
    (g : Nat) (y : Nl) (hy : InAddr y) (hx : a.eval x = .slice (some ⟨g, 0, none⟩) 1 1) (hc : Blk w g 41 (nlC y)) (h40 : n + 1 ≤ 1099511627776) (hB : B ≤ w.heap.size)
    (h : ∀ q' cap' w', Hid (NlsOwn w' B q' (n + 1) cap' (l ++ [y])) → Hid (Below B w w') → wpList Try.prog ops Q rest (a.put o.dst (.slice q' (n + 1) cap')) w') :
    wpList Try.prog ops Q (o :: rest) a w := by
  obtain ⟨i0, hi, hz0, hz1, hz2⟩ := info_parts infoNl
  refine wpList_append_own w hgd s x 22 ho B 41 i0 (.agg #[.int .i64 0, .int .u32 0, .int .i64 0]) 3 24 Try.underlying22 hi hz0 hz1 hz2 rfl (by decide) _ n _ hs hown.row ⟨g, 0, none⟩ 1 1 (nlC y) hx rfl (fun j u hj => ?_) (fun u hu => ?_) (by unfold maxLen; omega) (by omega) hB (fun v' w' h2 h3 _ => ?_)
  · have hjl : j < 3 := by
      rcases Nat.lt_or_ge j 3 with h | h
      · exact h
      · rw [List.getElem?_eq_none (by simpa [nlC] using h)] at hj; cases hj
    rw [add_litN, Nat.zero_add, hc.cell j (by simpa [nlC] using hjl)]
    have : j = 0 ∨ j = 1 ∨ j = 2 := by omega
    rcases this with rfl | rfl | rfl <;> simpa [nlC] using hj
  · simp [nlC] at hu
    rcases hu with rfl | rfl | rfl <;> rfl
  · obtain ⟨q', cap', rfl, _, _⟩ := rowN_form h2
    refine h q' cap' w' (Lib.hid ⟨by rw [List.length_append, hown.len]; rfl, fun i hi => ?_, ?_⟩) (Lib.hid ?_)
    · rcases Nat.lt_or_ge i l.length with hlt | hge
      · have := hown.addr i hlt
        simpa [List.getD, List.getElem?_append_left hlt] using this
      · have : i = l.length := by simp at hi; omega
        subst this
        simpa [List.getD] using hy
    · unfold ncells at *
      rw [List.flatMap_append]
      simpa using h2
    · refine (Below.refl B w).grown h3 hB fun k hk => ?_
      rcases hown.row.2 with ⟨hv, _⟩ | ⟨g', cap2, cur, hv, hB2, _⟩
      · rw [hv] at hk; cases hk
      · rw [hv] at hk
        have : g' = k := by simpa [Value.ownBlock] using hk
        omega

theorem gotP_bd {xs : List Int} {v n : Int} {s : Nat} (hx : InByte xs) (h : gotP xs = some (v, n, s)) : 0 ≤ v ∧ v < 4294967296 := by
  match xs, hx, h with
  | n0 :: r, hx, h =>
    have h : (if 32 < n0 then none else if r.length < (n0.toNat + 7) / 8 then none else some (getV (r.take ((n0.toNat + 7) / 8) ++ List.replicate (4 - (n0.toNat + 7) / 8) 0), n0, (n0.toNat + 7) / 8 + 1)) = some (v, n, s) := h
    by_cases h1 : 32 < n0
    · rw [if_pos h1] at h; cases h
    · rw [if_neg h1] at h
      by_cases h2 : r.length < (n0.toNat + 7) / 8
      · rw [if_pos h2] at h; cases h
      · rw [if_neg h2] at h
        simp only [Option.some.injEq, Prod.mk.injEq] at h
        obtain ⟨rfl, _, _⟩ := h
        have hr : InByte r := fun i hi => by
          have := hx (i + 1) (by simpa using hi)
          simpa using this
        have hp := inByte_pad hr ((n0.toNat + 7) / 8) (4 - (n0.toNat + 7) / 8)
        obtain ⟨ys, hys⟩ : ∃ ys, r.take ((n0.toNat + 7) / 8) ++ List.replicate (4 - (n0.toNat + 7) / 8) 0 = ys := ⟨_, rfl⟩
        have hl : ys.length = 4 := by
          rw [← hys, List.length_append, List.length_take, List.length_replicate]; omega
        rw [hys] at hp ⊢
        have := getV_bd ys hp 4 (by omega)
        rw [List.take_of_length_le (by omega)] at this
        exact this
theorem firstL_addr {paths : Bool} {xs : List Int} {x : Nl} {s : Nat} (hx : InByte xs) (h : firstL paths xs = some (x, s)) : InAddr x := by
  unfold firstL at h
  have key : ∀ {ys : List Int} {v n : Int} {t : Nat}, InByte ys → gotP ys = some (v, n, t) → 0 ≤ mk v n ∧ mk v n < 4294967296 := by
    intro ys v n t hy hg
    have hb := gotP_bd hy hg
    have := mk_bd v n hb.1 hb.2
    omega
  cases paths
  · simp only [Bool.false_eq_true, if_false, Option.map_eq_some_iff, Prod.mk.injEq] at h
    obtain ⟨⟨v, n, t⟩, hg, rfl, _⟩ := h
    exact key hx hg
  · rw [if_pos rfl] at h
    split at h
    · cases h
    · simp only [Option.map_eq_some_iff, Prod.mk.injEq] at h
      obtain ⟨⟨v, n, t⟩, hg, rfl, _⟩ := h
      exact key (fun i hi => by have := hx (4 + i) (by simp at hi; omega); simpa [List.getD] using this) hg

/-- What bytes tell, behind k that are there; none: they tell none. -/
def getNl (paths : Bool) : Nat → Nat → List Int → Option (List Nl)
  | 0, _, _ => some []
  | f + 1, k, xs => if xs.length = 0 then some [] else match firstL paths xs with
    | none => none
    | some (x, s) => if k = 1024 then none else (getNl paths f (k + 1) (xs.drop s)).map (x :: ·)
def getNls (paths : Bool) (xs : List Int) : Option (List Nl) := getNl paths (xs.length + 1) 0 xs
def NlsTo (w w' : World) (r : Option (List Nl)) (e : Ending) : Prop :=
  match r with
  | some l => ∃ q cap, e = .returned (.tuple #[.slice q l.length cap, .int .i64 0]) ∧ NlsOwn w' w.heap.size q l.length cap l ∧ Below w.heap.size w w'
  | none => e = .returned (.tuple #[.slice none 0 0, .int .i64 60]) ∧ Below w.heap.size w w'
def lenV : Value → Nat
  | .slice _ n _ => n
  | _ => 0
def NGetRel (w : World) (paths : Bool) (R : Option (List Nl)) (b v : Value) (wr : World) : Prop :=
  ∃ (q : Option Addr) (ys : List Int) (m c k : Nat) (lq : Option Addr) (lc f : Nat) (done : List Nl), b = .slice q m c ∧ ys.length = m ∧ m ≤ c ∧ c ≤ maxLen ∧ BytesAt w q ys ∧ v = .slice lq k lc ∧ k ≤ 1024 ∧ NlsOwn wr w.heap.size lq k lc done ∧ m < f ∧ R = (getNl paths f k ys).map (done ++ ·) ∧ Below w.heap.size w wr
set_option maxRecDepth 100000 in
set_option maxHeartbeats 4000000 in
theorem getNl_any (p : Option Addr) (xs : List Int) (n c : Nat) (paths : Bool) (w : World) (hb : BytesAt w p xs) (hn : xs.length = n) (hc : n ≤ c) (hm : c ≤ maxLen) :
    Calls Try.prog 12 #[.slice p n c, .bool paths] w fun e w' => NlsTo w w' (getNls paths xs) e := by
  obtain ⟨R, hR⟩ : ∃ R, getNls paths xs = R := ⟨_, rfl⟩
  rw [hR]
  have HR := Lib.hid (show R = (getNl paths (n + 1) 0 xs).map ([] ++ ·) from by rw [← hR, ← hn]; unfold getNls; simp)
  have HB0 := Lib.hid hb
  have HN := Lib.hid hn
  clear hb hn hR
  go_enter Try.func12, Try.ntmps12
  go_wp2
  go_loopw [0, 6] (fun b v wr => NGetRel w paths R b v wr) (fun b _ _ => lenV b)
  case atStart => exact ⟨p, xs, n, c, 0, none, 0, n + 1, [], rfl, HN.out, hc, hm, HB0.out, rfl, by omega, NlsOwn.nil _ _, by omega, HR.out, Below.refl _ _⟩
  case round =>
    obtain ⟨q, ys, m, c1, k, lq, lc, f, done, rfl, hm1, hm2, hm3, hY, rfl, hk, hO, hf, hRR, hB⟩ := hrel
    have HY := Lib.hid hY
    have HOW := Lib.hid hO
    have HRR := Lib.hid hRR
    have HB := Lib.hid hB
    have HM := Lib.hid hm1
    obtain ⟨f, rfl⟩ : ∃ f', f = f' + 1 := ⟨f - 1, by omega⟩
    clear hY hO hRR hB
    by_cases h0 : m = 0
    · subst h0
      have HD := Lib.hid (show R = some done from by rw [HRR.out, getNl, if_pos HM.out]; simp)
      have hcap := HOW.out.cap
      clear hm1
      go_wp2
      go_ret2
      have hl := HOW.out.len
      rw [HD.out]
      exact ⟨lq, lc, by rw [hl] <;> rfl, by rw [hl]; exact HOW.out, HB.out⟩
    · have t0 : decide ((0 : Int) < (m : Int)) = true := by simp; omega
      have hpos : 0 < m := by omega
      have HF := Lib.hid (first_any q ys m c1 paths wr (HY.out.below HB.out) hm1 hm2 hm3)
      have HST := Lib.hid (show R = (match firstL paths ys with
        | none => none
        | some (x, s) => if k = 1024 then none else (getNl paths f (k + 1) (ys.drop s)).map (x :: ·)).map (done ++ ·) from by rw [HRR.out, getNl, if_neg (by omega)])
      rcases hfl : firstL paths ys with _ | ⟨x, s⟩
      · rw [hfl] at HF
        have HN2 := Lib.hid (show R = none from by rw [HST.out, hfl]; rfl)
        unfold FirstTo at HF
        clear hm1 hfl h0
        go_wp2_with fail
        refine HF.out.mono ?_; rintro e w2 ⟨⟨i, s, rfl⟩, hb2⟩
        have HB2 := Lib.hid (HB.out.trans (hb2.mono HB.out.size))
        clear hb2
        go_wp2_with fail
        go_ret2
        rw [HN2.out]
        exact ⟨rfl, HB2.out.alloc HB2.out.size _⟩
      · have hsl := firstL_len hfl
        have had := firstL_addr (HY.out.1) hfl
        rw [hfl] at HF
        unfold FirstTo at HF
        simp only at HF
        by_cases hk24 : k = 1024
        · have HN2 := Lib.hid (show R = none from by rw [HST.out, hfl]; simp only; rw [if_pos hk24]; rfl)
          subst hk24
          clear hm1 hfl h0
          go_wp2_with fail
          refine HF.out.mono ?_; rintro e w2 ⟨rfl, hb2⟩
          have HB2 := Lib.hid (HB.out.trans (hb2.mono HB.out.size))
          clear hb2
          go_wp2_with fail
          go_ret2
          rw [HN2.out]
          exact ⟨rfl, HB2.out.alloc HB2.out.size _⟩
        · have t1 : ((k : Int) == 1024) = false := by simp; omega
          have hk2 : k < 1024 := by omega
          have HNX := Lib.hid (show R = (getNl paths f (k + 1) (ys.drop s)).map ((done ++ [x]) ++ ·) from by
            rw [HST.out, hfl]; simp only; rw [if_neg hk24, Option.map_map]; congr 1; funext z; simp)
          have E1 := fun u => run_cut_l u q m c1 (s : Int) s rfl (by omega)
          obtain ⟨q2, hq2⟩ : ∃ q2, cutP q c1 s = q2 := ⟨_, rfl⟩
          rw [hq2] at E1
          have HY2 := Lib.hid (show BytesAt w q2 (ys.drop s) from by have := HY.out.cutl c1 s (by omega) (by omega); rw [hq2] at this; exact this)
          have HL2 := Lib.hid (show (ys.drop s).length = m - s from by rw [List.length_drop, hm1])
          have HAD := Lib.hid had
          obtain ⟨id, a, ln⟩ := x
          simp only at HF
          clear hq2 hfl h0 had hk24
          go_wp2_with fail
          refine HF.out.mono ?_; rintro e w2 ⟨rfl, hb2⟩
          have hb3 := newB w2 (.cells #[.int .i64 id, .int .u32 a, .int .i64 ln] 41)
          have hb4 := newB (w2.alloc (.cells #[.int .i64 id, .int .u32 a, .int .i64 ln] 41)) (.cells #[.int .i64 id, .int .u32 a, .int .i64 ln] 41)
          have HB4 := Lib.hid (HB.out.trans (((hb2.trans (hb3.mono hb2.size)).trans (hb4.mono (Nat.le_trans hb2.size hb3.size))).mono HB.out.size))
          have HO4 := Lib.hid (((HOW.out.below hb2).below hb3).below hb4)
          have hKb := Blk.new (w2.alloc (.cells #[.int .i64 id, .int .u32 a, .int .i64 ln] 41)) 41 [.int .i64 id, .int .u32 a, .int .i64 ln]
          rw [show (w2.alloc (.cells #[.int .i64 id, .int .u32 a, .int .i64 ln] 41)).heap.size = w2.heap.size + 1 from sz_alloc _ _] at hKb
          have HK4 := Lib.hid hKb
          clear hb2 hb3 hb4 hKb
          go_wp2_with (refine wpList_appn (o := ⟨some 30, _, _, _, _, _⟩) (by rfl) (.tmp 27) (.tmp 29) (by rfl) w.heap.size lq lc k done HO4.out (by rfl) (w2.heap.size + 1) ⟨id, a, ln⟩ HAD.out (by rfl) HK4.out (by omega) HB4.out.size ?_; intro q5 cap5 w5 hO5 hB5)
          go_roundw
          case rel => exact ⟨q2, ys.drop s, m - s, c1 - s, k + 1, q5, cap5, f, done ++ [⟨id, a, ln⟩], rfl, HL2.out, by omega, by omega, HY2.out, rfl, by omega, hO5.out, by omega, HNX.out, HB4.out.trans hB5.out⟩
          case measure => simp [lenV]; omega
end Go.Proofs.Ytgmcjejgginpjaa
