/- What the wheel's program asks of Go's library: Len, TrailingZeros, Sort, Index, Delete. -/
import Derived.Test.YtbjhoncojegjiaaDoorWheelE
import Derived.Shelf.Lay
import Derived.Shelf.SlGeneric
import Derived.Shelf.Small.Bits
import Derived.Shelf.Spec.TrailingZeros
import Derived.Shelf.Sort.Plain
import Derived.Shelf.Slices.In.SortNone
import Derived.Shelf.SlicesG.Delete
import Derived.Shelf.SlicesG.Turned
import Derived.Ground.NamesProg
import Derived.Ground.Names7Prog
import Derived.Ground.SlgnProg
namespace Go.Proofs
open Go.Shelf
shelf_lay Lays.n125 Nm 125 at Tryd as Tryd.laysLen
shelf_lay Lays7.n27 Nm7 27 at Tryd as Tryd.laysTz
shelf_lay Lays.n189 Nm 189 at Tryd as Tryd.laysSort
shelf_lay_g SlLaysN.n29 Slgn 29 at Tryd 33 as Tryd.laysIndex
shelf_lay_g SlLaysN.n45 Slgn 45 at Tryd 34 as Tryd.laysDelete
theorem Tryd.len_any (x : Int) (w : World) (h0 : 0 ≤ x) (h1 : x ≤ 18446744073709551615) :
    Calls Tryd.prog 32 #[.int .u64 x] w fun e w' => e = .returned (.int .i64 (Lib.bitLen x.toNat)) ∧ w' = w := Any.bits_Len Tryd.laysLen x w h0 h1
theorem Tryd.tz_any (x : Nat) (hx : x < 18446744073709551616) (w : World) (hT : TabAt 1 Lib.deBruijn64tab w) :
    Calls Tryd.prog 35 #[.int .u64 x] w fun e w' => e = .returned (.int .i64 (Lib.ctz 64 x)) ∧ w' = w := Any7.bits_TrailingZeros Tryd.laysTz x hx w (fun _ => hT)
open Go.Sort Go.RowKit in
theorem Tryd.sort_any (blk off cap : Nat) (zs : List Int) (w : World) (hH : Holds (Value.int .i64) w blk off zs.toArray) (hblk : blk < w.heap.size) (hsz : zs.length < 4611686018427387904) :
    Calls Tryd.prog 30 #[.slice (some ⟨blk, off, none⟩) zs.length cap] w fun e w' =>
      e = .returned (.tuple #[]) ∧ ∃ n os, w' = grow (putRow (Value.int .i64) (Sort.ahead w n) blk off (zs.mergeSort fun x y => decide (x ≤ y)).toArray) os := Any.slices_Sort_int Tryd.laysSort blk off cap zs w hH hblk hsz
open Go.Sort Go.RowKit in
theorem Tryd.sort_none (p : Option Addr) (cap : Nat) (w : World) :
    Calls Tryd.prog 30 #[.slice p 0 cap] w fun e w' => e = .returned (.tuple #[]) ∧ w' = w := Any.slices_Sort_int_none Tryd.laysSort p cap w
theorem Tryd.index_any (b off n c : Nat) (zs : List Int) (x : Int) (w : World) (hz : n ≤ zs.length) (hbig : n ≤ 9223372036854775807) (hc : ∀ j, j < zs.length → w.cell? ⟨b, off + j, none⟩ = some (.int .i64 (zs.getD j 0))) :
    Calls Tryd.prog 33 #[.slice (some ⟨b, off, none⟩) n c, .int .i64 x] w fun e w' => e = .returned (.int .i64 (Lib.idxOf (zs.take n) x)) ∧ w' = w := AnyG.slices_Index_int Tryd.laysIndex b off n c zs x w hz hbig hc
open Go.Sort Go.RowKit in
theorem Tryd.delete_any (blk off cap i j : Nat) (zs : List Int) (w : World) (hH : Holds (Value.int .i64) w blk off zs.toArray) (hcap : zs.length ≤ cap) (hm : cap ≤ 9223372036854775807) (hij : i ≤ j) (hj : j ≤ zs.length) :
    Calls Tryd.prog 34 #[.slice (some ⟨blk, off, none⟩) zs.length cap, .int .i64 i, .int .i64 j] w fun e w' => e = .returned (.slice (some ⟨blk, off, none⟩) (zs.length - (j - i)) cap) ∧ ∃ q, w' = putRow (Value.int .i64) (Sort.ahead w q) blk off (zs.take i ++ zs.drop j ++ List.replicate (j - i) 0).toArray := AnyG.slices_Delete_int Tryd.laysDelete blk off cap i j zs w hH hcap hm hij hj
end Go.Proofs
