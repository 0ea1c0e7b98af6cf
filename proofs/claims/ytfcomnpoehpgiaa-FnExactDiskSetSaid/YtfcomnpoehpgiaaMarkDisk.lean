/- The contracts of the laws' helpers that mark a disk and an operation of the call's own and look for their marks. -/
import Derived.Test.YtfcomnpoehpgiaaHeld
namespace Go.Proofs.Ytfcomnpoehpgiaa
open Go.RowKit

section
variable {w w' : World} {lo c d : Nat} {A B : Option Addr} {es : List Ent} {os : List OpE} {S : Nat → Prop}
theorem own_only {e size n : Nat} {v : Value} {xs : List Value} (h : w.ownsRow lo e size v n xs) (ho : Only S w w') (hs : ∀ k, v.ownBlock = some k → ¬ S k) : w'.ownsRow lo e size v n xs := by
  have hlt := h.lt
  obtain ⟨h1, h2⟩ := h
  refine ⟨h1, ?_⟩
  rcases h2 with h2 | ⟨g, cap, cur, e, hb, hg, r⟩
  · exact .inl h2
  · exact .inr ⟨g, cap, cur, e, hb, (ho.block g (lt_of_block hg) (hs g (by rw [e]; rfl))).trans hg, r⟩
theorem OwnB.only {l : List Dat} (h : OwnB w lo l) (ho : Only S w w') (hs : ∀ e ∈ l, ∀ k, e.v.ownBlock = some k → ¬ S k) : OwnB w' lo l :=
  ⟨fun e he => own_only (h.own e he) ho (hs e he), h.small, h.apart⟩
theorem OwnF.only (h : OwnF w lo A c es) (ho : Only S w w') (hs : ∀ k, blkF A es k → ¬ S k) : OwnF w' lo A c es :=
  ⟨own_only h.row ho (fun k hk => hs k (.inl (by
    rcases A with _ | ⟨b, o, s⟩
    · cases hk
    · simp [Value.ownBlock] at hk; subst hk; exact ⟨o, s, rfl⟩))), h.dat.only ho (fun e he k hk => by
    obtain ⟨x, hx, rfl⟩ := List.mem_map.1 he
    exact hs k (.inr ⟨x, hx, hk⟩))⟩
theorem OwnO.only (h : OwnO w lo A c os) (ho : Only S w w') (hs : ∀ k, blkO A os k → ¬ S k) : OwnO w' lo A c os :=
  ⟨own_only h.row ho (fun k hk => hs k (.inl (by
    rcases A with _ | ⟨b, o, s⟩
    · cases hk
    · simp [Value.ownBlock] at hk; subst hk; exact ⟨o, s, rfl⟩))), h.dat.only ho (fun e he k hk => by
    obtain ⟨x, hx, rfl⟩ := List.mem_map.1 he
    exact hs k (.inr ⟨x, hx, hk⟩))⟩
theorem row_block {e size n m : Nat} {b o : Nat} {s : _} {xs : List Value} (h : w.ownsRow lo e size (.slice (some ⟨b, o, s⟩) n c) m xs) : ∃ cur, w.heap[b]? = some (.cells cur e (0, 0)) := by
  rcases h.2 with ⟨h2, _⟩ | ⟨g', cap, cur, e, _, hg, _⟩
  · cases h2
  · injection e with e1 _ _
    injection e1 with e1
    injection e1 with e1
    subst e1
    exact ⟨cur, hg⟩
theorem row_lt {e size n m : Nat} {b o : Nat} {s : _} {xs : List Value} (h : w.ownsRow lo e size (.slice (some ⟨b, o, s⟩) n c) m xs) : lo ≤ b ∧ b < w.heap.size := h.lt b rfl
/-- The blocks of the files and the blocks of the operations are other ones. -/
theorem OwnD.sep (h : OwnD w lo A c B d es os) (k : Nat) (h1 : blkF A es k) : ¬ blkO B os k := by
  intro h2
  rcases h1 with ⟨o, s, rfl⟩ | ⟨e, he, hk⟩
  · obtain ⟨cur, hg⟩ := row_block h.f.row
    rcases h2 with ⟨o', s', rfl⟩ | ⟨e', he', hk'⟩
    · obtain ⟨cur', hg'⟩ := row_block h.o.row
      rw [hg] at hg'
      injection hg' with hg'
      injection hg' with _ h3
      exact absurd h3 (by decide)
    · rcases h.o.dat.far hg (by decide) e'.d (List.mem_map.2 ⟨e', he', rfl⟩) with h5 | h5
      · rw [h5] at hk'; cases hk'
      · exact h5 hk'
  · rcases h2 with ⟨o', s', rfl⟩ | ⟨e', he', hk'⟩
    · obtain ⟨cur', hg'⟩ := row_block h.o.row
      rcases h.f.dat.far hg' (by decide) e.d (List.mem_map.2 ⟨e, he, rfl⟩) with h5 | h5
      · rw [h5] at hk; cases hk
      · exact h5 hk
    · rcases h.x e.d (List.mem_map.2 ⟨e, he, rfl⟩) e'.d (List.mem_map.2 ⟨e', he', rfl⟩) with h5 | h5
      · rw [h5] at hk; cases hk
      · exact h5 (hk.trans hk'.symm)
theorem OwnD.inF (h : OwnF w lo A c es) (k : Nat) (h1 : blkF A es k) : lo ≤ k ∧ k < w.heap.size := by
  rcases h1 with ⟨o, s, rfl⟩ | ⟨e, he, hk⟩
  · exact row_lt h.row
  · exact h.dat.lt (List.mem_map.2 ⟨e, he, rfl⟩) k hk
theorem OwnD.inO (h : OwnO w lo A c os) (k : Nat) (h1 : blkO A os k) : lo ≤ k ∧ k < w.heap.size := by
  rcases h1 with ⟨o, s, rfl⟩ | ⟨e, he, hk⟩
  · exact row_lt h.row
  · exact h.dat.lt (List.mem_map.2 ⟨e, he, rfl⟩) k hk
end

theorem mem_markEs {e' : Ent} : ∀ {es : List Ent} {k : Nat}, e' ∈ markEs k es → ∃ e ∈ es, e'.d.v = e.d.v
  | [], _, h => by cases h
  | e :: r, k, h => by
    rcases List.mem_cons.1 h with rfl | h
    · exact ⟨e, by simp, rfl⟩
    · obtain ⟨x, hx, hv⟩ := mem_markEs h
      exact ⟨x, by simp [hx], hv⟩
theorem mem_markOs {e' : OpE} : ∀ {es : List OpE} {k : Nat}, e' ∈ markOs k es → ∃ e ∈ es, e'.d.v = e.d.v
  | [], _, h => by cases h
  | e :: r, k, h => by
    rcases List.mem_cons.1 h with rfl | h
    · exact ⟨e, by simp, rfl⟩
    · obtain ⟨x, hx, hv⟩ := mem_markOs h
      exact ⟨x, by simp [hx], hv⟩

def MarkedD (w : World) (lo k : Nat) (A : Option Addr) (c : Nat) (B : Option Addr) (d : Nat) (es : List Ent) (os : List OpE) (e : Ending) (w' : World) : Prop :=
  e = .returned (.int .i64 (endOs (endEs k es) os : Int)) ∧ OwnD w' lo A c B d (markEs k es) (markOs (endEs k es) os) ∧ Only (fun b => blkF A es b ∨ blkO B os b) w w'

set_option maxHeartbeats 1000000 in
theorem markDisk_any (room fuse : Int) (A : Option Addr) (c : Nat) (B : Option Addr) (d : Nat) (lo k : Nat) (es : List Ent) (os : List OpE) (w : World) (h : OwnD w lo A c B d es os)
    (hn : es.length ≤ 2097152) (hs : ∀ e ∈ es, e.d.n ≤ 2097152) (hm : os.length ≤ 2097152) (ht : ∀ e ∈ os, e.d.n ≤ 2097152) (hk0 : 0 < k) (hk : endOs (endEs k es) os ≤ 4194304) :
    Calls Try.prog 39 #[.agg #[.int .i64 room, .int .i64 fuse, .slice A es.length c, .slice B os.length d], .int .i64 (k : Int)] w (MarkedD w lo k A c B d es os) := by
  have hke := endOs_le os (endEs k es)
  have hkf := endEs_le es k
  have H := Lib.hid h
  have ha := fun o : Obj => h.below (below_a1 w o)
  have C := Lib.hid (fun o => markFs_any A es.length c lo k es (w.alloc o) (ha o).f.row (ha o).f.dat rfl hn hs hk0 (by omega))
  have D := Lib.hid (fun W (hw : OwnO W lo B d os) => markOs_any B os.length d lo (endEs k es) os W hw.row hw.dat rfl hm ht (by omega) hk)
  clear ha h hs ht hk hke
  go_enter Try.func39, Try.ntmps39
  go_wp2_with fail
  refine (C.out _).mono ?_
  rintro e w1 ⟨rfl, hr1, hd1, hy1⟩
  have hD0 := H.out.below (below_a1 w (.cells #[.int .i64 room, .int .i64 fuse, .slice A es.length c, .slice B os.length d] 26))
  have ho1 : OwnO w1 lo B d os := hD0.o.only hy1 (fun i hi hf => hD0.sep i hf hi)
  have hf1 : OwnF w1 lo A c (markEs k es) := ⟨by rw [markEs_length]; exact hr1, hd1⟩
  have hx1 : ∀ a ∈ (markEs k es).map Ent.d, ∀ b ∈ os.map OpE.d, Apart a b := fun a ha b hb => by
    obtain ⟨x, hx, rfl⟩ := List.mem_map.1 ha
    obtain ⟨y, hy, hv⟩ := mem_markEs hx
    have := hD0.x y.d (List.mem_map.2 ⟨y, hy, rfl⟩) b hb
    unfold Apart at *
    rw [hv]
    exact this
  have HD1 : Hid (OwnD w1 lo A c B d (markEs k es) os) := Lib.hid ⟨hf1, ho1, hx1⟩
  have hnb : ¬ blkF A es w.heap.size := fun hh => by
    have := (OwnD.inF H.out.f _ hh).2
    omega
  have hc3 : w1.cell? ⟨w.heap.size, 3, none⟩ = some (.slice B os.length d) := by
    rw [World.cell?_of_block (w := w.alloc _) (hy1.block w.heap.size (by simp) hnb)]
    simp
  have HY1 := Lib.hid hy1
  clear hy1 hf1 ho1 hx1 hr1 hd1 hD0 hnb
  go_wp2_with fail
  refine (D.out _ HD1.out.o).mono ?_
  rintro e w2 ⟨rfl, hr2, hd2, hy2⟩
  go_wp2
  go_ret
  refine ⟨rfl, ⟨HD1.out.f.only hy2 (fun i hi => HD1.out.sep i hi), ⟨by rw [markOs_length]; exact hr2, hd2⟩, fun a ha b hb => ?_⟩, ?_⟩
  · obtain ⟨x, hx, rfl⟩ := List.mem_map.1 hb
    obtain ⟨y, hy, hv⟩ := mem_markOs hx
    have := HD1.out.x a ha y.d (List.mem_map.2 ⟨y, hy, rfl⟩)
    unfold Apart at *
    rw [hv]
    exact this
  · have h0 : Only (fun b => blkF A es b ∨ blkO B os b) w (w.alloc (.cells #[.int .i64 room, .int .i64 fuse, .slice A es.length c, .slice B os.length d] 26)) := (Only.refl _ _).below (below_a1 _ _)
    exact (h0.trans (HY1.out.mono (fun _ => .inl))).trans (hy2.mono (fun _ => .inr))

set_option maxHeartbeats 1000000 in
theorem heldDisk_any (room fuse : Int) (A : Option Addr) (n c : Nat) (B : Option Addr) (m d : Nat) (k : Nat) (es : List Ent) (os : List OpE) (w : World) (hf : SlF w A n (markEs k es)) (ho : SlO w B m (markOs (endEs k es) os))
    (hn : n ≤ 2097152) (hs : ∀ e ∈ es, e.d.n ≤ 2097152) (hm : m ≤ 2097152) (ht : ∀ e ∈ os, e.d.n ≤ 2097152) (hk0 : 0 < k) (hk : endOs (endEs k es) os ≤ 4194304) :
    Calls Try.prog 40 #[.agg #[.int .i64 room, .int .i64 fuse, .slice A n c, .slice B m d], .int .i64 (k : Int)] w (Nums w (endOs (endEs k es) os)) := by
  have hke := endOs_le os (endEs k es)
  have hkf := endEs_le es k
  have C := Lib.hid (fun W (h : Below w.heap.size w W) => heldFs_any A n c k es W (hf.below h) hn hs hk0 (by omega))
  have D := Lib.hid (fun W (h : Below w.heap.size w W) => heldOs_any B m d (endEs k es) os W (ho.below h) hm ht (by omega) hk)
  have h1 : (0 : Int) ≤ (endEs k es : Int) := by omega
  have h2 : (0 : Int) ≤ (endOs (endEs k es) os : Int) := by omega
  clear hf ho hs ht hk hke
  go_enter Try.func40, Try.ntmps40
  go_wp2_with fail
  refine (C.out _ (below_a1 _ _)).mono ?_
  rintro e w1 ⟨rfl, hb1⟩
  obtain ⟨hc, hfz⟩ := bcell hb1
  have HB := Lib.hid ((below_a1 w _).trans (hb1.mono (by simp)))
  clear hb1
  go_wp2_with fail
  refine (D.out _ HB.out).mono ?_
  rintro e w2 ⟨rfl, hb2⟩
  go_wp2
  go_ret
  exact ⟨rfl, HB.out.trans (hb2.mono HB.out.size)⟩

set_option maxHeartbeats 1000000 in
theorem markOp_any (kind : Int) (s t : ByteArray) (A : Option Addr) (n c lo k : Nat) (xs : List Nat) (w : World) (ho : w.ownsRow lo 5 1 (.slice A n c) n (vb xs)) (hn : n ≤ 2097152) (hk : k ≤ 8388608) :
    Calls Try.prog 49 #[.agg #[.int .i64 kind, .string s, .string t, .slice A n c], .int .i64 (k : Int)] w
      fun e w' => e = .returned (.int .i64 ((k + n : Nat) : Int)) ∧ Only (fun b => (Value.slice A n c).ownBlock = some b) w w' := by
  have C := Lib.hid (fun o => markB_any A n c lo k xs (w.alloc o) (own_below ho (below_a1 w o)) hn hk)
  clear ho
  go_enter Try.func49, Try.ntmps49
  go_wp2_with fail
  refine (C.out _).mono ?_
  rintro e w1 ⟨rfl, ho1, hg1⟩
  go_wp2
  go_ret
  exact ⟨rfl, ((Only.refl _ _).below (below_a1 _ _)).grown hg1 (fun _ h => h)⟩
end Go.Proofs.Ytfcomnpoehpgiaa
