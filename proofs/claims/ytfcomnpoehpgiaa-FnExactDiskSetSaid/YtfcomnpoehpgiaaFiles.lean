/- The contract of the program's function that lays files into a map. -/
import Derived.Test.YtfcomnpoehpgiaaClip
import Derived.Test.YtfcomnpoehpgiaaVisMath
namespace Go.Proofs.Ytfcomnpoehpgiaa
open Go.RowKit Go.Maps

set_option maxRecDepth 10000 in
set_option maxHeartbeats 2000000 in
theorem implClip_q (d : Dat) (w : World) (hd : d.Ok w) :
    Calls Try.prog 95 #[.slice d.A d.n d.c] w (fun e w' => e = .returned (.slice d.A d.n d.n) ∧ w' = w) := by
  have hc := hd.cap
  clear hd
  go_enter Try.func95, Try.ntmps95
  go_wp2
  go_ret
  exact ⟨rfl, rfl⟩

theorem run_makeMap_hint {P : Program} {t k e : TypeId} (ht : P.underlying t = some (.map k e)) (q : IntKind) (n : Int) (w : World) : (Instr.makeMap t (some (.int q n))).run P w = .ok (.map (some w.heap.size)) (w.alloc (.map #[] 0)) := by
  simp [Instr.makeMap, run_underlying ht, asInt, asIntOf, Result.andThen]

/-- What laying files into a map leaves. -/
def Mapped (w : World) (fs : List FileD) (e : Ending) (w' : World) : Prop :=
  ∃ mb es, e = .returned (.map (some mb)) ∧ es.map Ent.file = fs ∧ MapIs w' w.heap.size mb es ∧ Below w.heap.size w w'

set_option maxRecDepth 10000 in
set_option maxHeartbeats 4000000 in
theorem implFiles (A : Option Addr) (n c : Nat) (es : List Ent) (w : World) (hf : SlF w A n es) (hn : n ≤ 1048576) (hs : ∀ e ∈ es, e.nm.size ≤ 1048576) (hr : Rises (es.map Ent.file)) :
    Calls Try.prog 69 #[.slice A n c] w (Mapped w (es.map Ent.file)) := by
  have HF := Lib.hid hf
  have HS := Lib.hid hs
  have HRI := Lib.hid hr
  clear hf hs hr
  have hmm := run_makeMap_hint (P := Try.prog) Try.underlying78 .i64 (n : Int)
  go_enter Try.func69, Try.ntmps69
  go_wp2
  have hst : MapIs (w.alloc (.map #[] 0)) w.heap.size w.heap.size [] := ⟨World.ownsMap_made w _ _ _, Nat.le_refl _, by simp, by simp, List.Pairwise.nil⟩
  clear hmm
  go_loopw [11] (fun i wr => ∃ (k : Nat) (es1 : List Ent), k ≤ n ∧ i = .int .i64 k ∧ Hid (es1.map Ent.file = (es.map Ent.file).take k) ∧ Hid (∀ e ∈ es1, e.d.n = e.d.c) ∧ Hid (MapIs wr w.heap.size w.heap.size es1) ∧ Hid (Below w.heap.size w wr)) (fun i _ => n - (intOf i).toNat)
  case atStart => exact ⟨0, [], Nat.zero_le _, rfl, Lib.hid (by simp), Lib.hid (by simp), Lib.hid hst, Lib.hid (below_a1 _ _)⟩
  case round =>
    obtain ⟨k, es1, hk, rfl, hfs, hfull, hm, hbel⟩ := hrel
    by_cases hlt : k < n
    · obtain ⟨b, off, e, hA, hbw, he, hok, c0, c1⟩ := HF.out.at_ hlt
      subst hA
      have c0 := (hbel.out.cell (p := ⟨b, off + k * 2, none⟩) hbw).trans c0
      have c1 := (hbel.out.cell (p := ⟨b, off + k * 2 + 1, none⟩) hbw).trans c1
      have hes := HS.out e (List.mem_of_getElem? he.out)
      have hkey := Lib.hid (keyNm (s := e.nm) (by unfold maxLen; omega))
      have hfe : (es.map Ent.file)[k]? = some e.file := by rw [List.getElem?_map, he.out]; rfl
      have hl1 : es1.length ≤ 1048576 := by
        have := congrArg List.length hfs.out
        rw [List.length_map, List.length_take] at this
        omega
      have HX := Lib.hid (withF_take HRI.out hfe)
      have HOK := Lib.hid (hok.out.below hbel.out)
      have BB := Lib.hid ((below_a1 wr (.cells #[.string e.nm, .slice e.d.A e.d.n e.d.c] 93)).drew)
      have CC := Lib.hid (fun W (h : Below wr.heap.size wr W) => implClip_q e.d W (HOK.out.below h))
      have HM2 := Lib.hid (hm.out.below BB.out)
      obtain ⟨w3, hrun3, ho3, hg3⟩ := HM2.out.own.update Try.keyed Try.underlying78 (by unfold maxLen; omega) hkey.out (val := .slice e.d.A e.d.n e.d.n) (d := .held (.slice e.d.A e.d.n e.d.n)) (ps := []) rfl
      have HM3 := Lib.hid (HM2.out.stored (x := ⟨e.nm, ⟨e.d.A, e.d.n, e.d.n, e.d.xs⟩⟩) hg3 ho3 ⟨(HOK.out.below BB.out).rd, Nat.le_refl _⟩ (fun h => absurd h (by simp)) (fun f hf hh => by
        have := hfull.out f (lessK_mem hf).1
        simp only at hh
        omega))
      have HB3 := Lib.hid ((hbel.out.trans (BB.out.mono hbel.out.size)).grown hg3 (by have := hbel.out.size; have := BB.out.size; omega) (fun j hj => by injection hj with hj; omega))
      clear hfe ho3 hg3
      go_wp2
      go_region_with (go_at_call 95; ((with_reducible refine (CC.out _ (by first | exact BB.out | exact below_a1 _ _)).mono ?_)); rintro e1 w1 ⟨rfl, rfl⟩)
      all_goals
        go_wp2
        go_roundw
        case rel =>
          refine ⟨k + 1, withK Ent.nm ⟨e.nm, ⟨e.d.A, e.d.n, e.d.n, e.d.xs⟩⟩ es1, by omega, by go_num, Lib.hid ?_, Lib.hid ?_, HM3, HB3⟩
          · rw [withK_map (f := Ent.file) (key := Ent.nm) (key' := Prod.fst) (fun _ => rfl), hfs.out]
            exact HX.out
          · intro f hf
            rcases insK_mem.1 hf with rfl | hf
            · rfl
            · exact hfull.out f (lessK_mem hf).1
        case measure => simp [intOf]; omega
    · obtain rfl : k = n := by omega
      go_wp2
      go_ret
      exact ⟨w.heap.size, es1, rfl, by rw [hfs.out, List.take_of_length_le (by rw [List.length_map, HF.out.len]; omega)], hm.out, hbel.out⟩
end Go.Proofs.Ytfcomnpoehpgiaa
