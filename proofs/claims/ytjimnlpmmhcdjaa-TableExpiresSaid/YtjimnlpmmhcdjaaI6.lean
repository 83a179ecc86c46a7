/- table: All, Expire, Clear, Delete. -/
import Derived.Test.YtjimnlpmmhcdjaaI5
namespace Go.Proofs.Ytjimnlpmmhcdjaa
open Go.RowKit Go.Maps Go.Sort
set_option linter.unusedVariables false
set_option linter.unusedSimpArgs false
set_option maxRecDepth 100000

/-- A table without a key. -/
def delF {κ α : Type} (f : κ → Option α) (x : κ) [DecidableEq κ] : κ → Option α := fun y => if y = x then none else f y
section
variable {k e : TypeId} {κ α : Type} {kv : κ → Value} {kl : κ → Lit} {kok : κ → Prop} {R : Value → Option (DataW Unit × List MemPlace)} {ev : α → Value} {d : α → DataW Unit} {eok : α → Prop} {zero : α} {C : KeyC k kv kl kok} {E : ElC e R ev d eok zero} {w w' : World} {b n s : Nat} {f : κ → Option α}
theorem MapAt.size_le (h : MapAt C E w b n s f) : s ≤ n := by
  obtain ⟨D, h1, h2, _⟩ := h
  rw [← h2]; exact h1.size_le
/-- 'delete(m, x)'. -/
theorem MapAt.delete [DecidableEq κ] {t : TypeId} (h : MapAt C E w b n s f) (ht : Try.prog.underlying t = some (.map k e)) {x : κ} (hx : kok x) (ty : TypeId) :
    ∃ w' s', (Builtin.delete_ #[t, k] ty #[.map (some b), kv x]).run Try.prog w = .ok (.tuple #[]) w' ∧ MapAt C E w' b n s' (delF f x) ∧ s' + (if (f x).isSome then 1 else 0) = s ∧ w.grownBy w' (some b) := by
  obtain ⟨D, h1, h2, h3⟩ := h
  obtain ⟨w', hrun, hown, hg⟩ := h1.drop C.keyed ht (C.key x hx) ty
  have hsz := Maps.size_del (k := kl x) (h1.tidy C.keyed)
  rw [h2, (h3 x hx).1] at hsz
  refine ⟨w', _, hrun, ⟨_, hown, rfl, fun y hy => ?_⟩, hsz, hg.grown⟩
  unfold delF
  by_cases e' : y = x
  · subst e'
    rw [if_pos rfl]
    exact ⟨has_del_same, atKey_del_same _⟩
  · rw [if_neg e']
    have hne : kl y ≠ kl x := fun e2 => e' (C.inj _ _ hy hx e2)
    exact ⟨(has_del_other hne).trans (h3 y hy).1, (atKey_del_other hne _).trans (h3 y hy).2⟩
theorem step_delL {κ α : Type} {k e : TypeId} {kv : κ → Value} {kl : κ → Lit} {kok : κ → Prop} {R : Value → Option (DataW Unit × List MemPlace)} {ev : α → Value} {d : α → DataW Unit} {eok : α → Prop} {zero : α} {C : KeyC k kv kl kok} {E : ElC e R ev d eok zero} [DecidableEq κ] {t : TypeId} (ht : Try.prog.underlying t = some (.map k e)) {ops : Array Oper} {o : Oper} {a : Act} {w : World} {K : Act → World → Prop} {Q : Exit → Act → World → Prop} {G : Prop} (hw : Region.wanted o (yielded ops a.tmps) = true) (m x : Operand)
    (ho : o.op = .call { callee := .builtin .delete, args := #[m, x], argTypes := #[t, k] })
    (b n s : Nat) (f : κ → Option α) (y : κ) (hy : kok y) (hm : a.eval m = .map (some b)) (hx : a.eval x = kv y) (h : MapAt C E w b n s f)
    (hK : ∀ w' s', Hid (MapAt C E w' b n s' (delF f y)) → Hid (s' + (if (f y).isSome then 1 else 0) = s) → Hid (w.grownBy w' (some b)) → K (a.put o.dst (.tuple #[])) w') :
    if Region.wanted o (yielded ops a.tmps) = true then Oper.wp Try.prog o a w K Q else G := by
  rw [if_pos hw]
  obtain ⟨w', s', hrun, h2, h3, h4⟩ := h.delete ht hy o.type
  unfold Oper.wp execOp
  simp only [ho, resolve, invoke, builtin, Sem.run_bind, Sem.run_pure, Result.andThen_ok, List.map_toArray, List.map_cons, List.map_nil, hm, hx, hrun]
  exact hK w' s' (Lib.hid h2) (Lib.hid h3) (Lib.hid h4)
end

section
variable {k e : TypeId} {κ α : Type} {kv : κ → Value} {kl : κ → Lit} {kok : κ → Prop} {R : Value → Option (DataW Unit × List MemPlace)} {ev : α → Value} {d : α → DataW Unit} {eok : α → Prop} {zero : α} {C : KeyC k kv kl kok} {E : ElC e R ev d eok zero} {w w' : World} {b n s : Nat} {f : κ → Option α}
/-- 'clear(m)'. -/
theorem MapAt.clear {t : TypeId} (h : MapAt C E w b n s f) (ht : Try.prog.underlying t = some (.map k e)) (ty : TypeId) :
    ∃ w', (Builtin.clear_ #[t] ty #[.map (some b)]).run Try.prog w = .ok (.tuple #[]) w' ∧ MapAt C E w' b 0 0 (fun _ => none) ∧ w.grownBy w' (some b) := by
  obtain ⟨es, cl, hb⟩ := h.heap
  refine ⟨Go.ChangeMaps.setBlock w b (.map #[] cl), ?_, ⟨.map [], ⟨#[], cl, Go.ChangeMaps.heap_setBlock_same hb _, ⟨by simp, MapKept.stamped_empty cl, by simp⟩, Nat.le_refl _, rfl⟩, rfl, fun _ _ => ⟨rfl, rfl⟩⟩, ⟨rfl, rfl, rfl, by simp [Go.ChangeMaps.setBlock], fun i _ hi => Go.ChangeMaps.heap_setBlock_other hb _ (fun e => hi (by rw [e]))⟩⟩
  simp [Builtin.clear_, run_underlying ht, MapKept.run_getObj_map hb, MapKept.run_setObj_map _ hb, Result.andThen, Go.ChangeMaps.setBlock]
end
theorem tball2_any (w : World) (g b n : Nat) (L : List Dt) (H : TbAt w g b n L) (hn : n < 1000000) :
    Calls Try.prog 19 #[.pointer (some ⟨g, 0, none⟩)] w fun e w' => ∃ q c, e = .returned (.slice q L.length c) ∧ DtsAt w' q L ∧ L.length ≤ c ∧ c ≤ maxLen ∧ Below w.heap.size w w' ∧ ∀ r off, q = some ⟨r, off, none⟩ → w.heap.size < r := by
  have HT := Lib.hid (thoseAll_any w g b n L H hn)
  rw [show L.filter wtAll = L from List.filter_eq_self.2 fun _ _ => rfl] at HT
  clear H
  go_enter Try.func19, Try.ntmps19
  go_wp2_with (go_at_call 27; refine HT.out.mono ?_; rintro e w' ⟨q, c, rfl, h1, h2, h3, h4, h5⟩)
  go_ret
  exact ⟨q, c, rfl, h1, h2, h3, h4, h5⟩
theorem TbAt.turn {w w' : World} {g b n : Nat} {L : List Dt} (h : TbAt w g b n L) (hT : Turns (fun k => k ≠ g ∧ k ≠ b) w w') : TbAt w' g b n L :=
  ⟨h.blk.of_same (hT.block g h.blk.lt (fun e => e.1 rfl)), h.map.of_same (hT.block b h.map.lt (fun e => e.2 rfl)), h.srt, h.ok⟩
theorem tbclear_any (w : World) (g b n : Nat) (L : List Dt) (H : TbAt w g b n L) (hn : n < 1000000) :
    Calls Try.prog 16 #[.pointer (some ⟨g, 0, none⟩)] w fun e w' => ∃ q c, e = .returned (.slice q L.length c) ∧ DtsAt w' q L ∧ L.length ≤ c ∧ c ≤ maxLen ∧ TbAt w' g b 0 [] ∧ Turns (fun k => k = b) w w' ∧ ∀ r off, q = some ⟨r, off, none⟩ → w.heap.size < r := by
  have HT := Lib.hid (tball2_any w g b n L H hn)
  have HH := Lib.hid H
  clear H
  go_enter Try.func16, Try.ntmps16
  go_wp2_with fail
  refine HT.out.mono ?_
  rintro e U ⟨q, c, rfl, h1, h2, h3, h4, h5⟩
  have HT2 := Lib.hid (HH.out.next h4)
  have HA := Lib.hid (tball_any U g b HT2.out.at0)
  obtain ⟨es, cl, hes⟩ := HT2.out.map.heap
  have HES := Lib.hid hes
  have HC := Lib.hid (fun ty => HT2.out.map.clear Try.underlying53 ty)
  obtain ⟨U2, hrun, hm, hg⟩ := HC.out 0
  have HM := Lib.hid hm
  have HG := Lib.hid hg
  have H1 := Lib.hid h1
  have H2 := Lib.hid h2
  have H3 := Lib.hid h3
  have H4 := Lib.hid h4
  have H5 := Lib.hid h5
  clear hm hg h1 h2 h3 h4 h5 hes HC
  go_wp2_with (go_at_call 23; refine HA.out.mono ?_; rintro e w' ⟨rfl, rfl⟩)
  go_ret
  exact ⟨q, c, rfl, H1.out.turn HES.out HG.out, H2.out, H3.out, HT2.out.put HG.out HM.out (fun _ => rfl) rfl SrtD.nil (fun x hx => by cases hx), (Turns.of_below H4.out).trans (grown_turns HG.out), H5.out⟩
theorem TbAt.del {w w' : World} {g b n s' : Nat} {L : List Dt} {p : Pf} (h : TbAt w g b n L) (hg : w.grownBy w' (some b)) (hm : MapD w' b n s' (delF (lookD L) p)) (hs : s' + (if (lookD L p).isSome then 1 else 0) = L.length) : TbAt w' g b n (delD p L) :=
  h.put hg hm (fun q => by rw [look_delD h.srt]; rfl) (by have := delD_len h.srt p; omega) (delD_srt h.srt p) (fun x hx => h.ok x ((mem_delD _ _ _).1 hx).1)
set_option maxHeartbeats 4000000 in
theorem tbdel_any (w : World) (g b n : Nat) (L : List Dt) (H : TbAt w g b n L) (p : Pf) (hp : InPf p) :
    Calls Try.prog 11 #[.pointer (some ⟨g, 0, none⟩), pfV p] w fun e w' => e = .returned (.bool (lookD L p).isSome) ∧ TbAt w' g b n (delD p L) ∧ Turns (fun k => k = b) w w' := by
  obtain ⟨xa, xn⟩ := p
  have hb0 := newB w (.cells #[.int .u32 xa, .int .i64 xn] 32)
  have hX := Blk.new w 32 [.int .u32 xa, .int .i64 xn]
  obtain ⟨P, hP⟩ : ∃ P, w.heap.size = P := ⟨_, rfl⟩
  obtain ⟨V, hV⟩ : ∃ V, w.alloc (.cells #[.int .u32 xa, .int .i64 xn] 32) = V := ⟨_, rfl⟩
  rw [hV] at hb0 hX
  rw [hP] at hX
  have hT := H.next hb0
  obtain ⟨⟨y0, ⟨y1, y2⟩, y3, y4⟩, hy⟩ : ∃ y, (lookD L ⟨xa, xn⟩).getD Dt.zero = y := ⟨_, rfl⟩
  obtain ⟨o, ho⟩ : ∃ o, (lookD L ⟨xa, xn⟩).isSome = o := ⟨_, rfl⟩
  rw [ho]
  have HB0 := Lib.hid hb0
  have HX := Lib.hid hX
  have HT := Lib.hid hT
  have HP := Lib.hid hp
  have HVE := Lib.hid hV
  have HPE := Lib.hid hP
  have HALL := Lib.hid (fun (W : World) (hW : Below V.heap.size V W) => show W.cell? ⟨g, 0, none⟩ = some (.map (some b)) ∧ W.cell? ⟨P, 0, none⟩ = some (.int .u32 xa) ∧ W.cell? ⟨P, 1, none⟩ = some (.int .i64 xn) ∧ (Instr.lookup 53 (.map (some b)) (.agg #[.int .u32 xa, .int .i64 xn]) true).run Try.prog W = .ok (.tuple #[.agg #[.int .i64 y0, .int .u32 y1, .int .i64 y2, .int .i64 y3, .int .i64 y4], .bool o]) W from by
    have h1 := MapAt.look_ok (C := keyPfC) (E := elDtC) (hT.map.next hW) Try.underlying53 hp
    rw [hy, ho] at h1
    obtain ⟨x0, x1⟩ := pf_boxes (hX.next hW)
    exact ⟨(hT.next hW).at0, x0, x1, h1⟩)
  have HC := Lib.hid (fun (W : World) (hW : Below V.heap.size V W) => tball_any W g b (hT.next hW).at0)
  clear hX hb0 hV hP hy ho hT H hp
  go_enter Try.func11, Try.ntmps11
  go_wp2_with fail
  rw [HVE.out, HPE.out]
  go_region_held_law (fun W => W.cell? ⟨g, 0, none⟩ = some (.map (some b)) ∧ W.cell? ⟨P, 0, none⟩ = some (.int .u32 xa) ∧ W.cell? ⟨P, 1, none⟩ = some (.int .i64 xn) ∧ (Instr.lookup 53 (.map (some b)) (.agg #[.int .u32 xa, .int .i64 xn]) true).run Try.prog W = .ok (.tuple #[.agg #[.int .i64 y0, .int .u32 y1, .int .i64 y2, .int .i64 y3, .int .i64 y4], .bool o]) W) (first | exact HALL.out _ (Below.refl _ _).drew | exact HALL.out _ ((Below.refl _ _).drew.alloc (Nat.le_refl _) _)) (first | (go_at_call 23; refine (HC.out _ (by first | exact (Below.refl _ _).drew | exact ((Below.refl _ _).alloc (Nat.le_refl _) _).drew)).mono ?_; rintro e w' ⟨rfl, rfl⟩))
  all_goals
    have hb3 := (newB V (.cells #[.int .i64 y0, .int .u32 y1, .int .i64 y2, .int .i64 y3, .int .i64 y4] 36)).drew
    obtain ⟨V2, hV2⟩ : ∃ V2, (V.alloc (.cells #[.int .i64 y0, .int .u32 y1, .int .i64 y2, .int .i64 y3, .int .i64 y4] 36)).drew = V2 := ⟨_, rfl⟩
    obtain ⟨Q, hQ⟩ : ∃ Q, V.heap.size = Q := ⟨_, rfl⟩
    rw [hV2] at hb3 ⊢
    rw [hQ] at ⊢
    have HB3 := Lib.hid (HB0.out.trans (hb3.mono HB0.out.size)).drew
    have HX2 := Lib.hid ((HX.out.next hb3).next (Below.refl _ _).drew)
    have HT2 := Lib.hid ((HT.out.next hb3).next (Below.refl _ _).drew)
    have hS2 : V2.drew.cell? ⟨g, 0, none⟩ = some (.map (some b)) ∧ V2.drew.cell? ⟨P, 0, none⟩ = some (.int .u32 xa) ∧ V2.drew.cell? ⟨P, 1, none⟩ = some (.int .i64 xn) := by
      obtain ⟨x0, x1⟩ := pf_boxes HX2.out
      exact ⟨HT2.out.at0, x0, x1⟩
    have HA2 := Lib.hid (tball_any V2.drew g b HT2.out.at0)
    have HPG := Lib.hid (show P < V2.drew.heap.size ∧ P ≠ b from ⟨HX2.out.lt, HT2.out.map.notBlk HX2.out⟩)
    clear hV2 hQ hb3 HALL HC
    go_wp2_with fail
    go_region_held_law (fun W => W.cell? ⟨g, 0, none⟩ = some (.map (some b)) ∧ W.cell? ⟨P, 0, none⟩ = some (.int .u32 xa) ∧ W.cell? ⟨P, 1, none⟩ = some (.int .i64 xn)) (with_reducible assumption) (first | (go_at_call 23; refine HA2.out.mono ?_; rintro e w' ⟨rfl, rfl⟩) | (refine step_delL (C := keyPfC) (E := elDtC) Try.underlying53 (by kernel_rfl) (.tmp 15) (.tmp 16) rfl b n L.length (lookD L) ⟨xa, xn⟩ HP.out rfl rfl HT2.out.map ?_; intro w5 s5 hm5 hs5 hg5; have hS5 : w5.cell? ⟨g, 0, none⟩ = some (.map (some b)) ∧ w5.cell? ⟨P, 0, none⟩ = some (.int .u32 xa) ∧ w5.cell? ⟨P, 1, none⟩ = some (.int .i64 xn) := (by
        obtain ⟨x0, x1⟩ := pf_boxes (HX2.out.of_same (hg5.out.block P HPG.out.1 (fun e => HPG.out.2 (by injection e))))
        exact ⟨(HT2.out.del hg5.out hm5.out hs5.out).at0, x0, x1⟩)))
    all_goals
      go_wp2_with fail
      go_ret
      exact ⟨rfl, HT2.out.del hg5.out hm5.out hs5.out, (Turns.of_below HB3.out).trans (grown_turns hg5.out)⟩
end Go.Proofs.Ytjimnlpmmhcdjaa
