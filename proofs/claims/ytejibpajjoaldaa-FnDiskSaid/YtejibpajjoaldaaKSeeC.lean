/- What the model's functions that give a disk leave: a disk that reads, whose waiting operations lie within their capacity (plain lemmas over the model; no condition). -/
import Derived.Test.YtejibpajjoaldaaC11
namespace Go.Proofs.Ytejibpajjoaldaa
open Go.RowKit Go.Maps

def SeeC (w : World) (r : DD) (x : Value) (e : Ending) (w' : World) : Prop :=
  ∃ A n c B m d es os, e = .returned (.tuple #[.agg #[.int .i64 r.room, .int .i64 r.fuse, .slice A n c, .slice B m d], x]) ∧ es.map Ent.file = r.fs ∧ os.map OpE.op = r.ops ∧ SlF w' A n es ∧ SlO w' B m os ∧ m ≤ d ∧ Below w.heap.size w w'
theorem seeC_own {w W : World} {lo c d : Nat} {A B : Option Addr} {es : List Ent} {os : List OpE} {r : DD} {x : Value} (h : OwnD W lo A c B d es os) (h1 : es.map Ent.file = r.fs) (h2 : os.map OpE.op = r.ops) (hb : Below w.heap.size w W) :
    SeeC w r x (.returned (.tuple #[.agg #[.int .i64 r.room, .int .i64 r.fuse, .slice A es.length c, .slice B os.length d], x])) W :=
  ⟨A, es.length, c, B, os.length, d, es, os, rfl, h1, h2, h.f.sl, h.o.sl, own_capK h.o.row, hb⟩
/-- The answer: the copied files, the copied operations and a new one behind them, whose data may be cut. -/
theorem seeC_app {w w8 : World} {lo b2 b3 c1 d2 K : Nat} {A1 B2 : Option Addr} {es : List Ent} {os : List OpE} {f : OpE} {r : DD} {x u u0 u1 u2 u3 : Value}
    (hf : w8.ownsRow lo 87 2 (.slice A1 es.length c1) es.length (es.flatMap Ent.cells))
    (ho : w8.ownsRow lo 30 4 (.slice B2 (os ++ [f.cut K]).length d2) (os ++ [f.cut K]).length ((os ++ [f.cut K]).flatMap OpE.cells))
    (hd : OwnB w8 lo (es.map Ent.d ++ os.map OpE.d ++ [f.d])) (ht : TBox w8 b3 26) (hb2 : b2 < lo) (hw2 : w.heap.size ≤ b2) (hw3 : w.heap.size ≤ b3) (hB : Below w.heap.size w w8) (hK : K ≤ f.d.n)
    (h1 : es.map Ent.file = r.fs) (h2 : (os ++ [f.cut K]).map OpE.op = r.ops) :
    SeeC w r x (.returned (.tuple #[.agg #[.int .i64 r.room, .int .i64 r.fuse, .slice A1 es.length c1, .slice B2 (os ++ [f.cut K]).length d2], x])) (((((w8.setCell ⟨b3, 3, none⟩ u).setCell ⟨b2, 0, none⟩ u0).setCell ⟨b2, 1, none⟩ u1).setCell ⟨b2, 2, none⟩ u2).setCell ⟨b2, 3, none⟩ u3) := by
  have hL : Lows lo (w8.setCell ⟨b3, 3, none⟩ u) (((((w8.setCell ⟨b3, 3, none⟩ u).setCell ⟨b2, 0, none⟩ u0).setCell ⟨b2, 1, none⟩ u1).setCell ⟨b2, 2, none⟩ u2).setCell ⟨b2, 3, none⟩ u3) :=
    Lows.set (Lows.set (Lows.set (Lows.set (Lows.refl _ _) hb2 _) hb2 _) hb2 _) hb2 _
  have hf9 := own_keep (own_set_type hf (p := ⟨b3, 3, none⟩) ht (by decide) u) (fun k hk _ => hL k hk)
  have ho9 := own_keep (own_set_type ho (p := ⟨b3, 3, none⟩) ht (by decide) u) (fun k hk _ => hL k hk)
  have hd9 := (hd.set_type (p := ⟨b3, 3, none⟩) ht (by decide) u).keep (fun k hk _ => hL k hk)
  have hok := hd9.ok
  refine ⟨A1, es.length, c1, B2, (os ++ [f.cut K]).length, d2, es, os ++ [f.cut K], rfl, h1, h2, ⟨rfl, Row.of_own hf9, fun e he => ?_⟩, ⟨rfl, Row.of_own ho9, fun e he => ?_⟩, own_capK ho9, below_out4 (hB.setCell hw3 u) hw2 u0 u1 u2 u3⟩
  · exact hok _ (List.mem_append_left _ (List.mem_append_left _ (List.mem_map.2 ⟨e, he, rfl⟩)))
  · rcases List.mem_append.1 he with he | he
    · exact hok _ (List.mem_append_left _ (List.mem_append_right _ (List.mem_map.2 ⟨e, he, rfl⟩)))
    · rw [List.mem_singleton.1 he]
      have hx := hok f.d (List.mem_append_right _ (List.mem_singleton.2 rfl))
      exact ⟨hx.rd.take hK, Nat.le_trans hK hx.cap⟩
end Go.Proofs.Ytejibpajjoaldaa
