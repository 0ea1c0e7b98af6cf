/- More words for the laws' walks: the marking of a disk that the law itself has copied. -/
import Derived.Test.YtfcomnpoehpgiaaDiskSet
namespace Go.Proofs.Ytfcomnpoehpgiaa
open Go.RowKit

theorem mark_x {W : World} {r : DD} {A B : Option Addr} {n c m d lo b : Nat} {es : List Ent} {os : List OpE} (F : Fits es os) (g : GBox W lo b r A n c B m d es os) :
    Calls Try.prog 39 #[.agg #[.int .i64 r.room, .int .i64 r.fuse, .slice A n c, .slice B m d], .int .i64 1] W (MarkedD W lo 1 A c B d es os) := by
  have := markDisk_any r.room r.fuse A c B d lo 1 es os W g.own F.fl F.fe F.ol F.oe (by omega) F.top
  rw [g.fl, g.ol] at this
  exact this
end Go.Proofs.Ytfcomnpoehpgiaa
