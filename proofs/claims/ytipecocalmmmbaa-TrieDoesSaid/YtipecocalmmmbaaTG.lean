/- trie: the document's Get. -/
import Derived.Test.YtipecocalmmmbaaTM
namespace Go.Proofs.Ytipecocalmmmbaa
open Go.RowKit
set_option linter.unusedVariables false
set_option linter.unusedSimpArgs false

set_option maxRecDepth 100000 in
set_option maxHeartbeats 16000000 in
theorem rget_any (w : World) (x : Nat) (l : List O3) (pa pn : Int) (h : RfAt w x l) (hn : l.length ≤ 1000) :
    Calls Try.prog 20 #[.pointer (some ⟨x, 0, none⟩), .agg #[.int .u32 pa, .int .i64 pn]] w fun e w' => (∃ v, e = .returned (.tuple #[.int .i64 v, .bool (fB l pa pn)]) ∧ (fB l pa pn = false → v = 0) ∧ ∀ y, fB l pa pn = true → l[fI l pa pn]? = some y → v = y.2.2) ∧ Below w.heap.size w w' := by
  obtain ⟨B, q, n, c, hx, ho⟩ := h.is
  have hn : n ≤ 1000 := by rw [← ho.len]; exact hn
  have HA := Lib.hid (newB w (.cells #[.int .u32 pa, .int .i64 pn] 32))
  have hX := Blk.new w 32 [.int .u32 pa, .int .i64 pn]
  obtain ⟨V, hV⟩ : ∃ V, w.alloc (.cells #[.int .u32 pa, .int .i64 pn] 32) = V := ⟨_, rfl⟩
  obtain ⟨P, hP⟩ : ∃ P, w.heap.size = P := ⟨_, rfl⟩
  have hX : Blk V P 32 [.int .u32 pa, .int .i64 pn] := hP ▸ hV ▸ hX
  rw [hV] at HA
  have HB := Lib.hid hx
  have HO := Lib.hid ho
  have HV := Lib.hid hV
  have HP := Lib.hid hP
  have q0 : V.cell? ⟨P, 0, none⟩ = some (.int .u32 pa) := hX.cell 0 (by simp)
  have q1 : V.cell? ⟨P, 1, none⟩ = some (.int .i64 pn) := hX.cell 1 (by simp)
  have HFI := Lib.hid (find_any V x q n c l pa pn (kept HA.out (hx.cell 0 (by simp))) ho.len (ho.at.below HA.out) hn)
  clear hX hV hP hx ho h
  go_enter Try.func20, Try.ntmps20
  go_wp2_with fail
  rw [HV.out, HP.out]
  refine HFI.out.mono ?_
  rintro e w3 ⟨rfl, hb⟩
  have HB3 := Lib.hid (HA.out.trans (hb.mono HA.out.size))
  obtain ⟨i, hi⟩ : ∃ i, fI l pa pn = i := ⟨_, rfl⟩
  obtain ⟨f, hf⟩ : ∃ f, fB l pa pn = f := ⟨_, rfl⟩
  have HI := Lib.hid hi
  have HF := Lib.hid hf
  have HLT := Lib.hid (fun h : fB l pa pn = true => (HO.out.len ▸ fB_lt h : fI l pa pn < n))
  rw [hi, hf] at HLT
  rw [hi, hf]
  clear hi hf hb q0 q1
  rcases f with _ | _
  · go_wp2_with fail
    refine bodyPost_ret (v := .tuple #[.int .i64 0, .bool false]) (by simp [results, Try.results20, go_sem]) rfl ⟨⟨0, by rw [HF.out], fun _ => rfl, fun y h => ?_⟩, HB3.out⟩
    rw [HF.out] at h; cases h
  · have hin : i < n := HLT.out rfl
    have i0 : (0 : Int) ≤ (i : Int) := by omega
    have i1 : (i : Int) < (n : Int) := by omega
    obtain ⟨y, hy⟩ : ∃ y, l[i]? = some y := ⟨_, List.getElem?_eq_getElem (by rw [HO.out.len]; exact hin)⟩
    rcases HO.out.at with h | ⟨b, off, rfl, hc⟩
    · rw [h] at hy; cases hy
    have x0 : w3.cell? ⟨x, 0, none⟩ = some (.slice (some ⟨b, off, none⟩) n c) := kept HB3.out (HB.out.cell 0 (by simp))
    have y0 : w3.cell? ⟨b, off + i * 3 + 2, none⟩ = some (.int .i64 y.2.2) := kept HB3.out (hc i y hy).2.2
    have HY := Lib.hid hy
    clear hc hy
    go_wp2_with fail
    refine bodyPost_ret (v := .tuple #[.int .i64 y.2.2, .bool true]) (by simp [results, Try.results20, go_sem]) rfl ⟨⟨y.2.2, by rw [HF.out], fun h => (by rw [HF.out] at h; cases h), fun z _ h => ?_⟩, HB3.out⟩
    rw [HI.out, HY.out] at h
    rw [Option.some.inj h]
end Go.Proofs.Ytipecocalmmmbaa
