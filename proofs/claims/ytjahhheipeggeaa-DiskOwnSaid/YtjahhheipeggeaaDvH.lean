/- What is proved: the walks of five statements, with what disk's functions answer. -/
import Derived.Test.YtjahhheipeggeaaDvG
import Derived.Test.YtjahhheipeggeaaDskP
import Derived.Test.YtjahhheipeggeaaDskR
import Derived.Test.YtjahhheipeggeaaDskU
import Derived.Test.YtjahhheipeggeaaDskV
import Derived.Test.YtjahhheipeggeaaDskX
import Derived.Test.YtjahhheipeggeaaFrmA
namespace Go.Proofs.Ytjahhheipeggeaa
open Go.RowKit

theorem fullDiskTells (v : Value) (d : Dsk) (v' : Value) (o : Dsk) (s n : Int) (t : ByteArray) (lost : Int) (w : World)
    (Dd : Dk w 0 w.heap.size v d) (Do : Dk w 0 w.heap.size v' o) (hs : I64 s) (hn : I64 n) (hts : t.size ≤ 140737488351232) (hlost : 0 ≤ lost ∧ lost < 18446744073709551616) :
    Calls Try.prog 3 #[v, v', .int .i64 s, .int .i64 n, .string t, .int .u64 lost] w fun e w' => e = .returned (.bool true) ∧ Below w.heap.size w w' :=
  walkDiskTells dnew_spec dput_spec dsync_spec dcrash_spec dget_spec dcheck_spec dsame_spec ddirty_spec v d v' o s n t lost w Dd Do hs hn hts hlost
theorem fullDiskCrash (v : Value) (d : Dsk) (lost : Int) (w : World) (Dd : Dk w 0 w.heap.size v d) (hlost : 0 ≤ lost ∧ lost < 18446744073709551616) :
    Calls Try.prog 7 #[v, .int .u64 lost] w fun e w' => e = .returned (.bool true) ∧ Below w.heap.size w w' :=
  walkDiskCrash dnew_spec dput_spec dsync_spec dcrash_spec dget_spec dsame_spec ddirty_spec v d lost w Dd hlost
theorem fullDiskRises (a : Option Addr) (n c : Nat) (l : List DAct) (w : World) (hr : Rg 5 w 0 w.heap.size a n (acts l)) (hn : n ≤ 140737488351232) (hin : ∀ (k : Nat) (x : DAct), l[k]? = some x → x.In) :
    Calls Try.prog 4 #[.slice a n c] w fun e w' => e = .returned (.bool true) ∧ Below w.heap.size w w' :=
  walkDiskRises dnew_spec dput_spec dsync_spec dcrash_spec dget_spec dcheck_spec a n c l w hr hn hin
theorem fullDiskSure (a : Option Addr) (n c : Nat) (l : List DAct) (a' : Option Addr) (n' c' : Nat) (l' : List DAct) (s q : Int) (b : ByteArray) (w : World) (hr : Rg 5 w 0 w.heap.size a n (acts l)) (hn : n ≤ 140737488351232) (hin : ∀ (k : Nat) (x : DAct), l[k]? = some x → x.In)
    (hr' : Rg 5 w 0 w.heap.size a' n' (acts l')) (hn' : n' ≤ 140737488351232) (hin' : ∀ (k : Nat) (x : DAct), l'[k]? = some x → x.In) (hs : I64 s) (hq : I64 q) (hbm : b.size ≤ 140737488351232) :
    Calls Try.prog 5 #[.slice a n c, .slice a' n' c', .int .i64 s, .int .i64 q, .string b] w fun e w' => e = .returned (.bool true) ∧ Below w.heap.size w w' :=
  walkDiskSure dnew_spec dput_spec dsync_spec dcrash_spec dget_spec a n c l a' n' c' l' s q b w hr hr' hn hn' hin hin' hs hq hbm
theorem fullDiskGreatest (a : Option Addr) (n c : Nat) (l : List DAct) (w : World) (hr : Rg 5 w 0 w.heap.size a n (acts l)) (hn : n ≤ 140737488351232) (hin : ∀ (k : Nat) (x : DAct), l[k]? = some x → x.In) :
    Calls Try.prog 9 #[.slice a n c] w fun e w' => e = .returned (.bool true) ∧ Below w.heap.size w w' :=
  walkDiskGreatest dnew_spec dput_spec dsync_spec dcrash_spec dget_spec a n c l w hr hn hin
end Go.Proofs.Ytjahhheipeggeaa
