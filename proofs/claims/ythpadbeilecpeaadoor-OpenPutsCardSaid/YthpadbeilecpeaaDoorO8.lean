/- open: Message; two of what routers say held against each other; what a Get gives, by its answer. -/
import Derived.Test.YthpadbeilecpeaaDoorO3
import Derived.Test.YthpadbeilecpeaaDoorO7
import Derived.Laws.StructEq
namespace Go.Proofs.YthpadbeilecpeaaDoor
open Go.RowKit

theorem eqF_cons {P : Program} (d : Nat) (xs ys : Array Value) (f : Field) (fs : List Field) (w : World) {x y : Value} {a b : Bool} (hn : f.name ≠ "_") (h1 : (part f.type xs f.offset).run P w = .ok x w) (h2 : (part f.type ys f.offset).run P w = .ok y w)
    (h3 : (Op.equalIn d f.type x y).run P w = .ok a w) (h4 : (Op.eqFields d xs ys fs).run P w = .ok b w) : (Op.eqFields d xs ys (f :: fs)).run P w = .ok (a && b) w := by
  simp only [Op.eqFields]
  rw [if_pos hn]
  simp only [Sem.run_bind, h1, h2, h3, Result.andThen_ok]
  cases a
  · simp [Sem.run_pure]
  · simpa using h4
theorem eqF_nil {P : Program} (d : Nat) (xs ys : Array Value) (w : World) : (Op.eqFields d xs ys []).run P w = .ok true w := by simp [Op.eqFields, Sem.run_pure]
theorem list_five {α : Type} {l : List α} (h : l.length = 5) : ∃ a b c d e, l = [a, b, c, d, e] := by
  match l, h with
  | [a, b, c, d, e], _ => exact ⟨a, b, c, d, e, rfl⟩
theorem open_under : Tryd.prog.underlying 24 = some (.struct (Tryd.prog.fieldsOf 24)) := by kernel_rfl
theorem open_held : Tryd.prog.stoodInHeld 24 = false := by kernel_rfl
theorem open_guard : Tryd.prog.eqGuardType Tryd.prog.depth 24 = false := by kernel_rfl
theorem open_fields : (Tryd.prog.fieldsOf 24).toList.map (fun f => (f.name, f.type, f.offset)) = [("AS", 3, 0), ("Hold", 3, 1), ("ID", 22, 2), ("Four", 4, 3), ("Paths", 3, 4)] := by kernel_rfl
theorem open_equalIn (d : Nat) (a1 a2 a3 a5 : Int) (a4 : Bool) (w : World) :
    (Op.equalIn (d + 1 + 1) 24 (.agg #[.int .i64 a1, .int .i64 a2, .int .u32 a3, .bool a4, .int .i64 a5]) (.agg #[.int .i64 a1, .int .i64 a2, .int .u32 a3, .bool a4, .int .i64 a5])).run Tryd.prog w = .ok true w := by
  rw [run_equalIn_struct w (d + 1) _ _ _ open_under open_held]
  have hf := open_fields
  generalize (Tryd.prog.fieldsOf 24).toList = fs at hf
  obtain ⟨f0, f1, f2, f3, f4, rfl⟩ := list_five (l := fs) (by simpa using congrArg List.length hf)
  simp only [List.map_cons, List.map_nil, List.cons.injEq, Prod.mk.injEq, and_true] at hf
  obtain ⟨⟨n0, t0, o0⟩, ⟨n1, t1, o1⟩, ⟨n2, t2, o2⟩, ⟨n3, t3, o3⟩, n4, t4, o4⟩ := hf
  have q : ∀ a : Int, (Op.equalIn (d + 1) 3 (.int .i64 a) (.int .i64 a)).run Tryd.prog w = .ok true w := fun a => by rw [run_equalIn_int w d _ _ _ a a Tryd.underlying3]; simp
  have qu : (Op.equalIn (d + 1) 22 (.int .u32 a3) (.int .u32 a3)).run Tryd.prog w = .ok true w := by rw [run_equalIn_int w d _ _ _ a3 a3 Tryd.underlying22]; simp
  have qb : (Op.equalIn (d + 1) 4 (.bool a4) (.bool a4)).run Tryd.prog w = .ok true w := by rw [run_equalIn_bool' w d _ a4 a4 Tryd.underlying4]; simp
  have p0 : ∀ v0 v1 v2 v3 v4 : Value, (part 3 #[v0, v1, v2, v3, v4] 0).run Tryd.prog w = .ok v0 w := fun _ _ _ _ _ => by kernel_rfl
  have p1 : ∀ v0 v1 v2 v3 v4 : Value, (part 3 #[v0, v1, v2, v3, v4] 1).run Tryd.prog w = .ok v1 w := fun _ _ _ _ _ => by kernel_rfl
  have p2 : ∀ v0 v1 v2 v3 v4 : Value, (part 22 #[v0, v1, v2, v3, v4] 2).run Tryd.prog w = .ok v2 w := fun _ _ _ _ _ => by kernel_rfl
  have p3 : ∀ v0 v1 v2 v3 v4 : Value, (part 4 #[v0, v1, v2, v3, v4] 3).run Tryd.prog w = .ok v3 w := fun _ _ _ _ _ => by kernel_rfl
  have p4 : ∀ v0 v1 v2 v3 v4 : Value, (part 3 #[v0, v1, v2, v3, v4] 4).run Tryd.prog w = .ok v4 w := fun _ _ _ _ _ => by kernel_rfl
  have g4 := eqF_cons (P := Tryd.prog) (d + 1) #[.int .i64 a1, .int .i64 a2, .int .u32 a3, .bool a4, .int .i64 a5] #[.int .i64 a1, .int .i64 a2, .int .u32 a3, .bool a4, .int .i64 a5] f4 [] w (by rw [n4]; decide) (by rw [t4, o4]; exact p4 _ _ _ _ _) (by rw [t4, o4]; exact p4 _ _ _ _ _) (by rw [t4]; exact q a5) (eqF_nil _ _ _ _)
  have g3 := eqF_cons (P := Tryd.prog) (d + 1) #[.int .i64 a1, .int .i64 a2, .int .u32 a3, .bool a4, .int .i64 a5] #[.int .i64 a1, .int .i64 a2, .int .u32 a3, .bool a4, .int .i64 a5] f3 [f4] w (by rw [n3]; decide) (by rw [t3, o3]; exact p3 _ _ _ _ _) (by rw [t3, o3]; exact p3 _ _ _ _ _) (by rw [t3]; exact qb) g4
  have g2 := eqF_cons (P := Tryd.prog) (d + 1) #[.int .i64 a1, .int .i64 a2, .int .u32 a3, .bool a4, .int .i64 a5] #[.int .i64 a1, .int .i64 a2, .int .u32 a3, .bool a4, .int .i64 a5] f2 [f3, f4] w (by rw [n2]; decide) (by rw [t2, o2]; exact p2 _ _ _ _ _) (by rw [t2, o2]; exact p2 _ _ _ _ _) (by rw [t2]; exact qu) g3
  have g1 := eqF_cons (P := Tryd.prog) (d + 1) #[.int .i64 a1, .int .i64 a2, .int .u32 a3, .bool a4, .int .i64 a5] #[.int .i64 a1, .int .i64 a2, .int .u32 a3, .bool a4, .int .i64 a5] f1 [f2, f3, f4] w (by rw [n1]; decide) (by rw [t1, o1]; exact p1 _ _ _ _ _) (by rw [t1, o1]; exact p1 _ _ _ _ _) (by rw [t1]; exact q a2) g2
  have g0 := eqF_cons (P := Tryd.prog) (d + 1) #[.int .i64 a1, .int .i64 a2, .int .u32 a3, .bool a4, .int .i64 a5] #[.int .i64 a1, .int .i64 a2, .int .u32 a3, .bool a4, .int .i64 a5] f0 [f1, f2, f3, f4] w (by rw [n0]; decide) (by rw [t0, o0]; exact p0 _ _ _ _ _) (by rw [t0, o0]; exact p0 _ _ _ _ _) (by rw [t0]; exact q a1) g1
  exact g0
/-- What is the same is equal. -/
theorem open_eql (a1 a2 a3 a5 : Int) (a4 : Bool) (w : World) :
    (binOp .eql 24 (.agg #[.int .i64 a1, .int .i64 a2, .int .u32 a3, .bool a4, .int .i64 a5]) (.agg #[.int .i64 a1, .int .i64 a2, .int .u32 a3, .bool a4, .int .i64 a5])).run Tryd.prog w = .ok (.bool true) w := by
  have := open_equalIn 9998 a1 a2 a3 a5 a4 w
  rw [run_eql_struct, this]; rfl
theorem open_eqGuard (op : BinOp) (x y : Operand) (xs ys : Array Value) (w : World) : (eqGuard op 24 x y (.agg xs) (.agg ys)).run Tryd.prog w = .ok () w := run_eqGuard_agg w op _ x y xs ys open_guard

/-- What a Get gives, by its answer. -/
theorem get_as {xs : List Int} {a1 a2 a3 a5 : Int} {a4 : Bool} {code sub : Int} {data : List Int} (h : getO xs = ⟨⟨a1, a2, a3, a4, a5⟩, code, sub, data⟩) (p : Option Addr) (n c m : Nat) (w : World) (hb : BytesAt w p xs) (hn : xs.length = n) (hl : n ≤ 140737488355328) (hm : data.length = m) :
    Calls Tryd.prog 9 #[.slice p n c] w fun e w' => ∃ q cap, e = .returned (.tuple #[.agg #[.int .i64 a1, .int .i64 a2, .int .u32 a3, .bool a4, .int .i64 a5], .agg #[.int .i64 code, .int .i64 sub, .slice q m cap]]) ∧ Own w' w.heap.size q cap data ∧ Below w.heap.size w w' := by
  subst hm
  have := get_any p xs n c w hb hn hl
  rw [h] at this
  exact this
theorem put_as {a1 a2 a3 a5 : Int} {a4 : Bool} {xs : List Int} {n : Nat} (h : putO ⟨a1, a2, a3, a4, a5⟩ = xs) (hn : xs.length = n) (w : World) (hf : FitO ⟨a1, a2, a3, a4, a5⟩) (hk : okO ⟨a1, a2, a3, a4, a5⟩ = true) :
    Calls Tryd.prog 4 #[.agg #[.int .i64 a1, .int .i64 a2, .int .u32 a3, .bool a4, .int .i64 a5]] w fun e w' => ∃ p cap, e = .returned (.tuple #[.slice p n cap, .int .i64 0]) ∧ Own w' w.heap.size p cap xs ∧ Below w.heap.size w w' := by
  subst h hn
  exact put_ok ⟨a1, a2, a3, a4, a5⟩ w hf hk

theorem message_ok {asn hold id paths : Int} {four : Bool} {xs : List Int} {n : Nat} (h : putO ⟨asn, hold, id, four, paths⟩ = xs) (hn : xs.length = n) (w : World) (hf : FitO ⟨asn, hold, id, four, paths⟩) (hk : okO ⟨asn, hold, id, four, paths⟩ = true) :
    Calls Tryd.prog 5 #[.agg #[.int .i64 asn, .int .i64 hold, .int .u32 id, .bool four, .int .i64 paths]] w fun e w' => ∃ p cap, e = .returned (.tuple #[.agg #[.int .i64 1, .slice p n cap], .int .i64 0]) ∧ Own w' w.heap.size p cap xs ∧ Below w.heap.size w w' := by
  obtain ⟨W, hW⟩ : ∃ W, (w.alloc (.cells #[.int .i64 asn, .int .i64 hold, .int .u32 id, .bool four, .int .i64 paths] 24)).alloc (.cells #[.int .i64 0, .slice none 0 0] 30) = W := ⟨_, rfl⟩
  have HB := Lib.hid (show Below w.heap.size w W by rw [← hW]; exact two_below _ _ _)
  have HM := Lib.hid (show Blk W (w.heap.size + 1) 30 [.int .i64 0, .slice none 0 0] by
    rw [← hW, ← sz_alloc w (.cells #[.int .i64 asn, .int .i64 hold, .int .u32 id, .bool four, .int .i64 paths] 24)]; exact Blk.new _ _ [.int .i64 0, .slice none 0 0])
  have HW := Lib.hid hW
  have HP := Lib.hid (put_as h hn W hf hk)
  clear h hn hf hk hW
  go_enter Tryd.func5, Tryd.ntmps5
  go_wp2_with fail
  rw [HW.out]
  refine HP.out.mono ?_; rintro e w1 ⟨p, cap, rfl, hO, hb⟩
  have HO := Lib.hid hO
  have HB1 := Lib.hid (HB.out.trans (hb.mono HB.out.size))
  have HM1 := Lib.hid (HM.out.next hb)
  have HL := Lib.hid HM.out.lt
  clear hO hb
  have c0 := HM1.out.cell 0 (by simp)
  have c1 := HM1.out.cell 1 (by simp)
  have f0 := HM1.out.f 0
  have f1 := HM1.out.f 1
  go_wp2_with fail
  exact bodyPost_ret (v := .tuple #[.agg #[.int .i64 1, .slice p n cap], .int .i64 0]) (by simp [results, Tryd.results5, go_sem, c0, c1]) rfl ⟨p, cap, rfl, ((HO.out.setBelow HL.out _).setBelow HL.out _).mono HB.out.size, (HB1.out.setCell (by simp) _).setCell (by simp) _⟩
theorem message_no (asn hold id paths : Int) (four : Bool) (w : World) (hk : okO ⟨asn, hold, id, four, paths⟩ = false) :
    Calls Tryd.prog 5 #[.agg #[.int .i64 asn, .int .i64 hold, .int .u32 id, .bool four, .int .i64 paths]] w fun e w' => e = .returned (.tuple #[.agg #[.int .i64 0, .slice none 0 0], .int .i64 40]) ∧ Below w.heap.size w w' := by
  obtain ⟨W, hW⟩ : ∃ W, (w.alloc (.cells #[.int .i64 asn, .int .i64 hold, .int .u32 id, .bool four, .int .i64 paths] 24)).alloc (.cells #[.int .i64 0, .slice none 0 0] 30) = W := ⟨_, rfl⟩
  have HB := Lib.hid (show Below w.heap.size w W by rw [← hW]; exact two_below _ _ _)
  have HM := Lib.hid (show Blk W (w.heap.size + 1) 30 [.int .i64 0, .slice none 0 0] by
    rw [← hW, ← sz_alloc w (.cells #[.int .i64 asn, .int .i64 hold, .int .u32 id, .bool four, .int .i64 paths] 24)]; exact Blk.new _ _ [.int .i64 0, .slice none 0 0])
  have HW := Lib.hid hW
  have HP := Lib.hid (show Calls Tryd.prog 4 #[.agg #[.int .i64 asn, .int .i64 hold, .int .u32 id, .bool four, .int .i64 paths]] W fun e w' => e = .returned (.tuple #[.slice none 0 0, .int .i64 40]) ∧ Below W.heap.size W w' from put_no ⟨asn, hold, id, four, paths⟩ W hk)
  clear hk hW
  go_enter Tryd.func5, Tryd.ntmps5
  go_wp2_with fail
  rw [HW.out]
  refine HP.out.mono ?_; rintro e w1 ⟨rfl, hb⟩
  have HB1 := Lib.hid (HB.out.trans (hb.mono HB.out.size))
  have HM1 := Lib.hid (HM.out.next hb)
  clear hb
  have c0 := HM1.out.cell 0 (by simp)
  have c1 := HM1.out.cell 1 (by simp)
  have f0 := HM1.out.f 0
  have f1 := HM1.out.f 1
  go_wp2_with fail
  exact bodyPost_ret (v := .tuple #[.agg #[.int .i64 0, .slice none 0 0], .int .i64 40]) (by simp [results, Tryd.results5, go_sem, c0, c1]) rfl ⟨rfl, (HB1.out.setCell (by simp) _).setCell (by simp) _⟩
end Go.Proofs.YthpadbeilecpeaaDoor
